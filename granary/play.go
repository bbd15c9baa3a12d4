package granary

import (
	"errors"
	"strconv"
	"strings"

	"granary/api"
	"granary/plain"
	"granary/script"
)

// Play runs a whole text and answers the log.
func Play(text string) string {
	play, err := script.Parse(text)
	var wrong *script.LineError
	if errors.As(err, &wrong) {
		return refusal(wrong.Line, wrong.Code)
	}
	m, e := New(play.Cluster)
	if e != api.OK {
		return refusal(0, e)
	}
	var log strings.Builder
	for _, op := range play.Ops {
		line, _ := script.PrintOp(op) // what Parse gave can be written
		log.WriteString("> " + line + "\n" + script.Tell(m.Do(op)))
	}
	log.WriteString(ending(m.Look()))
	return log.String()
}

// refusal is the log of a text that is not run.
func refusal(line int, e api.Errno) string { return words("refused", line, int(e)) + "\n" }

// ending is the log's last lines: what one sees behind the last step.
func ending(v api.View) string {
	text := ""
	for _, n := range v.Nodes {
		has := n.Has
		text += words("node", n.Id, digit(n.Up), has.Cur, has.Prev, has.Epoch, has.Seq) + " " + plain.ListOf(has.Have) + "\n"
	}
	return text + words("end", v.Now, len(v.Flight), digit(v.Busy)) + "\n"
}

// words is a word with numbers behind it.
func words(word string, numbers ...int) string {
	for _, n := range numbers {
		word += " " + strconv.Itoa(n)
	}
	return word
}

func digit(is bool) int {
	if is {
		return 1
	}
	return 0
}
