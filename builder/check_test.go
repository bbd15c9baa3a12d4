package builder

import (
	"slices"
	"strings"
	"testing"

	"granary/api"
	"granary/ring"
)

// P8.2

// filled is pairs of different keys that have so many bytes in all.
func filled(bytes int) []api.Pair {
	var list []api.Pair
	for i := 0; bytes > 0; i++ {
		key := strings.Repeat(string(rune('a'+i)), 2)
		n := min(bytes-len(key), 4000)
		if rest := bytes - len(key) - n; rest > 0 && rest < 3 {
			n -= 3
		}
		list = append(list, api.Pair{Key: key, Value: text(n)})
		bytes -= len(key) + n
	}
	return list
}

func TestCheckJob(t *testing.T) {
	for _, c := range []struct {
		j    api.Job
		want api.Errno
	}{
		{job(1, 0, 1, 2), api.OK},
		{job(999999, 2, 1<<30, 16), api.OK},
		{job(500, 1, 5000, 9), api.OK},
		{job(0, 0, 1, 2), api.ErrVersion},
		{job(-1, 0, 1, 2), api.ErrVersion},
		{job(1000000, 0, 1, 2), api.ErrVersion},
		{job(leastInt, 0, 1, 2), api.ErrVersion},
		{job(mostInt, 0, 1, 2), api.ErrVersion},
		{job(1, -1, 1, 2), api.ErrPolicy},
		{job(1, 3, 1, 2), api.ErrPolicy},
		{job(1, leastInt, 1, 2), api.ErrPolicy},
		{job(1, mostInt, 1, 2), api.ErrPolicy},
		{job(1, 0, 0, 2), api.ErrArg},
		{job(1, 0, -1, 2), api.ErrArg},
		{job(1, 0, 1<<30+1, 2), api.ErrArg},
		{job(1, 0, mostInt, 2), api.ErrArg},
		{job(1, 0, 1, 1), api.ErrArg},
		{job(1, 0, 1, 17), api.ErrArg},
		{job(1, 0, 1, leastInt), api.ErrArg},
		{job(1, 0, 1, mostInt), api.ErrArg},
		{api.Job{}, api.ErrVersion},
	} {
		is(t, "Check", Check(c.j, nil), c.want)
		is(t, "Check of pairs", Check(c.j, pairs("a=1", "b=2")), c.want)
	}
}

func TestCheckPairs(t *testing.T) {
	j := job(1, api.KeepLast, 1, 2)
	for _, c := range []struct {
		what string
		list []api.Pair
		want api.Errno
	}{
		{"none", nil, api.OK},
		{"an empty list", []api.Pair{}, api.OK},
		{"a key of a byte, an empty value", pairs("k"), api.OK},
		{"bytes of any kind", pairs("\x00\xff\n=\x00\xff\n"), api.OK},
		{"an empty key", pairs("=v"), api.ErrKey},
		{"255 bytes", pairs(text(255)), api.OK},
		{"256 bytes", pairs(text(256)), api.ErrKey},
		{"a value of 4096 bytes", pairs("k=" + text(4096)), api.OK},
		{"a value of 4097 bytes", pairs("k=" + text(4097)), api.ErrValue},
		{"key and value of one pair", pairs("=" + text(4097)), api.ErrKey},
		{"a value ahead of a key", pairs("a", "k="+text(4097), "=x"), api.ErrValue},
		{"a key ahead of a value", pairs("a", "=x", "k="+text(4097)), api.ErrKey},
		{"the last pair's key", pairs("a", "b", ""), api.ErrKey},
		{"the last pair's value", pairs("a", "b", "c="+text(4097)), api.ErrValue},
		{"512 pairs", numbered(512), api.OK},
		{"513 pairs", numbered(513), api.ErrCount},
		{"513 pairs without keys", make([]api.Pair, 513), api.ErrCount},
		{"512 pairs without keys", make([]api.Pair, 512), api.ErrKey},
		{"32768 bytes", filled(32768), api.OK},
		{"32769 bytes", filled(32769), api.ErrBig},
		{"32769 bytes, and an empty key behind", append(filled(32769), api.Pair{}), api.ErrKey},
		{"keys alone above the limit", slices.Repeat(pairs(text(255)), 129), api.ErrBig},
		{"a key twice", pairs("a=1", "a=2"), api.OK},
	} {
		is(t, c.what, Check(j, c.list), c.want)
	}
	is(t, "the bytes that were filled", bytesOf(filled(32768)), 32768)
	is(t, "the bytes that were filled", bytesOf(filled(32769)), 32769)
}

func TestCheckRepeat(t *testing.T) {
	for policy, want := range []api.Errno{api.OK, api.OK, api.ErrRepeat} {
		j := job(1, policy, 1, 2)
		is(t, "twice at once", Check(j, pairs("a", "a")), want)
		is(t, "far apart", Check(j, append(numbered(400), pairs("k0=other")...)), want)
		is(t, "with the same value", Check(j, pairs("a=1", "b=1", "a=1")), want)
		is(t, "once each", Check(j, pairs("a", "b", "aa", "A")), api.OK)
		is(t, "one", Check(j, pairs("a")), api.OK)
		is(t, "none", Check(j, nil), api.OK)
	}
	is(t, "too many bytes, and a key twice", Check(job(1, 2, 1, 2), append(filled(32769), filled(2)...)), api.ErrBig)
}

// TestCheckOrder: of all that is wrong the first is told; what is told is mended, and the next one comes.
func TestCheckOrder(t *testing.T) {
	j, list := job(0, 3, 0, 1), make([]api.Pair, 513)
	is(t, "1", Check(j, list), api.ErrVersion)
	j.Version = 1
	is(t, "2", Check(j, list), api.ErrPolicy)
	j.Policy = api.KeepNone
	is(t, "3", Check(j, list), api.ErrArg)
	j.Memory = 1
	is(t, "3, the fan", Check(j, list), api.ErrArg)
	j.FanIn = 2
	is(t, "4", Check(j, list), api.ErrCount)
	list = append(pairs("a="+text(4096), "a="+text(4096)), filled(32768)...)
	list = append(list, api.Pair{})
	is(t, "5", Check(j, list), api.ErrKey)
	list = list[:len(list)-1]
	is(t, "6", Check(j, list), api.ErrBig)
	list = list[:2]
	is(t, "7", Check(j, list), api.ErrRepeat)
	is(t, "none", Check(j, list[:1]), api.OK)
}

// P8.3

func TestNeed(t *testing.T) {
	for _, c := range []struct {
		what string
		c    api.Cluster
		list []api.Pair
		want int
	}{
		{"one node, no pairs", single(), nil, 160 + 512},
		{"one node, one pair", single(), pairs("k=v"), 3 + 12 + 160 + 512 + 2*(3+18)},
		{"an empty value", single(), pairs("k"), 2 + 12 + 160 + 512 + 2*(2+18)},
		{"one key twice counts twice", single(), pairs("k=v", "k=v"), 6 + 24 + 160 + 512 + 2*(6+36)},
		{"a width of 16", settings("s", 1, 16, 1, holding(0)), pairs("k=v"), 18 + 12 + 160 + 512 + 2*(18+18)},
		{"three chunks", settings("s", 1, 1, 3, holding(0)), pairs("k=v"), 3 + 12 + 480 + 512 + 2*(3+18)},
		{"a node without partitions", settings("s", 1, 1, 1, holding(0), holding()), nil, 160 + 1024},
		{"three replicas", round(4, 6, 3, 2, 2), pairs("ab=cde", "f"), 3*(7+3+24) + 160*6*3*2 + 512*4 + 2*(7+3+36)},
		{"the most", round(16, 64, 8, 16, 1), numbered(512), plainNeed(round(16, 64, 8, 16, 1), numbered(512))},
	} {
		n, e := Need(c.c, easy(1), c.list)
		is(t, c.what, e, api.OK)
		is(t, c.what, n, c.want)
	}
	for _, j := range []api.Job{job(1, 0, 1, 2), job(999999, 2, 1<<30, 16), job(7, 1, 1000, 3)} {
		n, _ := Need(east(), j, pairs("abc=grain"))
		is(t, "the job does not count", n, 4192)
	}
}

func TestNeedRefuses(t *testing.T) {
	for _, c := range []struct {
		what string
		c    api.Cluster
		j    api.Job
		list []api.Pair
		want api.Errno
	}{
		{"no cluster and no job", api.Cluster{}, api.Job{}, nil, api.ErrName},
		{"a width", settings("s", 1, 17, 1, holding(0)), api.Job{}, nil, api.ErrSetting},
		{"no nodes", settings("s", 1, 1, 1), api.Job{}, nil, api.ErrNodes},
		{"a partition that lacks", settings("s", 1, 1, 1, holding(1)), easy(1), nil, api.ErrParts},
		{"too many replicas", settings("s", 2, 1, 1, holding(0)), easy(1), nil, api.ErrCopies},
		{"too many files", round(2, 33, 1, 1, 16), easy(1), nil, api.ErrBig},
		{"no version", east(), job(0, 0, 1, 2), nil, api.ErrVersion},
		{"a policy", east(), job(1, 3, 1, 2), nil, api.ErrPolicy},
		{"a fan", east(), job(1, 0, 1, 17), nil, api.ErrArg},
		{"too many pairs", east(), easy(1), numbered(513), api.ErrCount},
		{"an empty key", east(), easy(1), make([]api.Pair, 1), api.ErrKey},
		{"a long value", east(), easy(1), pairs("a=" + text(4097)), api.ErrValue},
		{"too many bytes", east(), easy(1), filled(32769), api.ErrBig},
		{"a key twice", east(), job(1, 2, 1, 2), pairs("a", "a"), api.ErrRepeat},
	} {
		n, e := Need(c.c, c.j, c.list)
		is(t, c.what, e, c.want)
		is(t, c.what, n, 0)
		d := fresh(t, 1<<20)
		put(t, d, "part-1/a", "x")
		acts := d.Acts()
		refuses(t, c.what, d, c.c, c.j, c.list, c.want)
		is(t, c.what+": acts", d.Acts(), acts)
		refuses(t, c.what+", and the disk is down", down(t, d), c.c, c.j, c.list, c.want)
		refuses(t, c.what+", and no disk", nil, c.c, c.j, c.list, api.ErrNil)
	}
	is(t, "the most files", ring.Check(round(2, 32, 1, 1, 16)), api.OK)
}
