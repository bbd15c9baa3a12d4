package frame

import (
	"encoding/binary"
	"encoding/hex"
	"fmt"
	"hash/crc32"
	"strings"
	"testing"

	"granary/api"
)

const (
	mostInt  = int(^uint(0) >> 1)
	leastInt = -mostInt - 1
	maxBody  = 4383

	// The chapter's frames A and B.
	aDigits = "475201 01 0040 0003 0000000000000001 00000000 7a0f32d3"
	bDigits = "475201 0b 0041 0002 0000000000000009 00000005 00036f6174 57c75584"
)

var (
	longKey   = strings.Repeat("k", 255)
	longValue = strings.Repeat("v", 4096)

	frameA, frameB = raw(aDigits), raw(bDigits)
	ping           = api.Msg{Kind: 1, From: 64, To: 3, Id: 1}
	get            = api.Msg{Kind: 11, From: 65, To: 2, Id: 9, Key: "oat"}
)

// kindFields is the chapter's table of the kinds.
var kindFields = [17]string{
	3:  "Epoch Version",
	4:  "Epoch Version Code",
	5:  "Epoch Seq Version",
	6:  "Epoch Seq Version Prev Code",
	7:  "Epoch Seq",
	8:  "Epoch Seq Version Prev Code",
	10: "Epoch Seq Version Prev Code",
	11: "Key",
	12: "Version Code Key Value",
	13: "Seq Version",
	14: "Seq Version Prev Code Value",
	15: "Seq Version Prev",
	16: "Seq Version Prev Code Key Value",
}

const otherFields = "Epoch Seq Version Prev Code Key Value"

// ranges are the greatest numbers, or lengths, of the fields.
var ranges = map[string]int{
	"From": 65535, "To": 65535, "Id": 1 << 53,
	"Epoch": 1 << 53, "Seq": 1 << 53, "Version": 1 << 53, "Prev": 1 << 53, "Code": 65535, "Key": 255, "Value": 4096,
}

func isText(field string) bool { return field == "Key" || field == "Value" }

// fieldsOf are the fields that a kind has, those ahead of the body too.
func fieldsOf(kind int) []string { return strings.Fields("From To Id " + kindFields[kind]) }

func has(kind int, field string) bool {
	return strings.Contains(" From To Id "+kindFields[kind]+" ", " "+field+" ")
}

// with is a message in which a field is this number, or a text of such a length.
func with(m api.Msg, field string, n int) api.Msg {
	switch field {
	case "From":
		m.From = n
	case "To":
		m.To = n
	case "Id":
		m.Id = n
	case "Epoch":
		m.Epoch = n
	case "Seq":
		m.Seq = n
	case "Version":
		m.Version = n
	case "Prev":
		m.Prev = n
	case "Code":
		m.Code = api.Errno(n)
	case "Key":
		m.Key = strings.Repeat("k", n)
	case "Value":
		m.Value = strings.Repeat("v", n)
	}
	return m
}

// full is a message whose fields are all there, no two alike.
func full(kind int) api.Msg {
	m := api.Msg{Kind: kind}
	for i, f := range fieldsOf(kind) {
		m = with(m, f, 7+3*i)
	}
	return m
}

// greatest is a message whose fields are all as great as they may be.
func greatest(kind int) api.Msg {
	m := api.Msg{Kind: kind}
	for _, f := range fieldsOf(kind) {
		m = with(m, f, ranges[f])
	}
	return m
}

// bytesOf is a message's body, whether the message is valid or not.
func bytesOf(m api.Msg) string {
	var out []byte
	for _, f := range strings.Fields(kindFields[m.Kind]) {
		switch f {
		case "Epoch":
			out = binary.BigEndian.AppendUint64(out, uint64(m.Epoch))
		case "Seq":
			out = binary.BigEndian.AppendUint64(out, uint64(m.Seq))
		case "Version":
			out = binary.BigEndian.AppendUint64(out, uint64(m.Version))
		case "Prev":
			out = binary.BigEndian.AppendUint64(out, uint64(m.Prev))
		case "Code":
			out = binary.BigEndian.AppendUint16(out, uint16(m.Code))
		case "Key":
			out = append(binary.BigEndian.AppendUint16(out, uint16(len(m.Key))), m.Key...)
		case "Value":
			out = append(binary.BigEndian.AppendUint32(out, uint32(len(m.Value))), m.Value...)
		}
	}
	return string(out)
}

// boxed is a body with what stands around it in a frame; the length and the sum fit.
func boxed(kind, from, to, id int, body string) string {
	out := []byte{71, 82, 1, byte(kind)}
	out = binary.BigEndian.AppendUint16(out, uint16(from))
	out = binary.BigEndian.AppendUint16(out, uint16(to))
	out = binary.BigEndian.AppendUint64(out, uint64(id))
	out = binary.BigEndian.AppendUint32(out, uint32(len(body)))
	return summed(string(out) + body)
}

// frameOf is a message's frame by the words of the chapter, whether the message is valid or not.
func frameOf(m api.Msg) string { return boxed(m.Kind, m.From, m.To, m.Id, bytesOf(m)) }

// summed is a text with its sum behind it.
func summed(text string) string {
	return string(binary.LittleEndian.AppendUint32([]byte(text), crc32.ChecksumIEEE([]byte(text))))
}

// resummed is a text whose last four bytes are made the sum of the others.
func resummed(text string) string { return summed(text[:len(text)-4]) }

func raw(digits string) string {
	data, err := hex.DecodeString(strings.ReplaceAll(digits, " ", ""))
	if err != nil {
		panic(err)
	}
	return string(data)
}

// put1 is a text in which one byte is another one.
func put1(text string, at int, b byte) string { return text[:at] + string([]byte{b}) + text[at+1:] }

// saying is a text whose length of the body is said to be another one.
func saying(text string, length uint32) string {
	return text[:16] + string(binary.BigEndian.AppendUint32(nil, length)) + text[20:]
}

func is[T comparable](t *testing.T, what string, got, want T) {
	t.Helper()
	if got != want {
		t.Errorf("%s: %v, want %v", what, got, want)
	}
}

// dice are numbers that are the same in every run.
type dice uint64

func (d *dice) roll(n int) int {
	*d = *d*6364136223846793005 + 1442695040888963407
	return int(uint64(*d)>>33) % n
}

// bytes are so many bytes, many of them such as frames begin with.
func (d *dice) bytes(n int) string {
	out := make([]byte, n)
	for i := range out {
		out[i] = "GR\x01\x00\x0b\x10G\xff"[d.roll(8)]
	}
	return string(out)
}

// message is some valid message, its texts short mostly.
func (d *dice) message() api.Msg {
	m := api.Msg{Kind: 1 + d.roll(16)}
	for _, f := range fieldsOf(m.Kind) {
		switch {
		case isText(f) && d.roll(20) > 0:
			m = with(m, f, d.roll(12))
		case d.roll(4) == 0:
			m = with(m, f, ranges[f])
		default:
			m = with(m, f, d.roll(min(ranges[f], 1<<30)+1))
		}
	}
	if m.Key != "" {
		m.Key = d.bytes(len(m.Key))
	}
	return m
}

// cut is a text in parts, some of them empty.
func (d *dice) cut(text string) []string {
	var parts []string
	for longest := 1 + d.roll(60); text != ""; {
		n := min(len(text), d.roll(longest+1))
		parts = append(parts, text[:n])
		text = text[n:]
	}
	return parts
}

func short(x string) string {
	if len(x) > 120 {
		return fmt.Sprintf("%x.. (%d bytes)", x[:100], len(x))
	}
	return fmt.Sprintf("%x", x)
}

func encodes(t *testing.T, m api.Msg, want string, errno api.Errno) {
	t.Helper()
	if got, e := Encode(m); got != want || e != errno {
		t.Errorf("Encode(%.300s) = %s, %d, want %s, %d", fmt.Sprintf("%+v", m), short(got), e, short(want), errno)
	}
}

func decodes(t *testing.T, text string, want api.Msg, errno api.Errno) {
	t.Helper()
	if got, e := Decode(text); got != want || e != errno {
		t.Errorf("Decode(%s) = %.300s, %d, want %.300s, %d", short(text), fmt.Sprintf("%+v", got), e, fmt.Sprintf("%+v", want), errno)
	}
}

func refuses(t *testing.T, text string, errno api.Errno) {
	t.Helper()
	decodes(t, text, api.Msg{}, errno)
}

// splits holds Split and Scan against the pieces that are wanted.
func splits(t *testing.T, stream string, want ...api.Piece) {
	t.Helper()
	got := Split(stream)
	if fmt.Sprint(got) != fmt.Sprint(want) {
		t.Errorf("Split(%s) = %.300s, want %.300s", short(stream), fmt.Sprint(got), fmt.Sprint(want))
	}
	i := 0
	for at, m := range Scan(stream) {
		if i >= len(want) || at != want[i].At || m != want[i].M {
			t.Errorf("Scan(%s) tells %d, %.300s as number %d", short(stream), at, fmt.Sprint(m), i)
		}
		i++
	}
	is(t, "pieces of Scan", i, len(want))
}

// feeds holds a Feed, and what was skipped up to then, against what is wanted.
func feeds(t *testing.T, r *Reader, part string, skipped int, want ...api.Msg) {
	t.Helper()
	got, e := r.Feed(part)
	if fmt.Sprint(got) != fmt.Sprint(want) || e != api.OK || r.Skipped() != skipped {
		t.Errorf("Feed(%s) = %.300s, %d, skipped %d, want %.300s, %d", short(part), fmt.Sprint(got), e, r.Skipped(), fmt.Sprint(want), skipped)
	}
}

func closes(t *testing.T, r *Reader, skipped int, want ...api.Msg) {
	t.Helper()
	if got := r.Close(); fmt.Sprint(got) != fmt.Sprint(want) || r.Skipped() != skipped {
		t.Errorf("Close = %.300s, skipped %d, want %.300s, %d", fmt.Sprint(got), r.Skipped(), fmt.Sprint(want), skipped)
	}
}
