package script_test

import (
	"bytes"
	"math"
	"slices"
	"strings"
	"testing"

	"gleaning/api"
	"gleaning/script"
)

func get(k uint64) api.Op    { return api.Op{Kind: api.Get, Key: k} }
func put(k, v uint64) api.Op { return api.Op{Kind: api.Put, Key: k, Value: v} }
func del(k uint64) api.Op    { return api.Op{Kind: api.Delete, Key: k} }
func scan(k, h uint64, most int) api.Op {
	return api.Op{Kind: api.Scan, Key: k, High: h, Most: most}
}

var tick = api.Entry{Kind: api.Tick}

func pick(thread int) api.Entry { return api.Entry{Kind: api.Pick, Thread: thread} }

func submit(thread int, o api.Op) api.Entry {
	return api.Entry{Kind: api.Submit, Thread: thread, Op: o}
}

func TestDecode(t *testing.T) { // 28.1
	for _, x := range []struct {
		b       []byte
		threads int
		want    []api.Entry
	}{
		{nil, 4, nil}, {[]byte{0, 191, 192, 207}, 4, []api.Entry{pick(0), pick(3), tick, tick}}, {[]byte{0, 191, 100}, 64, []api.Entry{pick(0), pick(63), pick(36)}}, {[]byte{191}, 1, []api.Entry{pick(0)}},
		{[]byte{208, 5, 219, 6}, 5, []api.Entry{submit(3, get(5)), submit(4, get(6))}}, {[]byte{220, 5, 6, 231, 7, 8}, 5, []api.Entry{submit(0, put(5, 6)), submit(1, put(7, 8))}},
		{[]byte{232, 5, 243, 255}, 5, []api.Entry{submit(2, del(5)), submit(3, del(255))}}, {[]byte{244, 5, 6, 0, 255, 7, 8, 255}, 5, []api.Entry{submit(4, scan(5, 6, 1)), submit(0, scan(7, 8, 256))}},
		{[]byte{208}, 1, []api.Entry{submit(0, get(0))}}, {[]byte{220}, 1, []api.Entry{submit(0, put(0, 0))}}, {[]byte{220, 9}, 1, []api.Entry{submit(0, put(9, 0))}}, {[]byte{244}, 1, []api.Entry{submit(0, scan(0, 0, 1))}}, {[]byte{244, 9}, 1, []api.Entry{submit(0, scan(9, 0, 1))}}, {[]byte{244, 9, 8}, 1, []api.Entry{submit(0, scan(9, 8, 1))}}, {[]byte{232}, 64, []api.Entry{submit(40, del(0))}},
		{[]byte{5}, 0, nil}, {[]byte{5}, 65, nil}, {[]byte{5}, -1, nil}, {[]byte{5}, math.MaxInt, nil}, {[]byte{5}, math.MinInt, nil},
	} {
		if got := script.Decode(x.b, x.threads); !slices.Equal(got, x.want) {
			t.Errorf("Decode(%v, %d) = %v", x.b, x.threads, got)
		}
	}
	long := bytes.Repeat([]byte{3}, 65536)
	long[65535] = 220
	if got := script.Decode(append(long, 9, 9, 9), 4); len(got) != 65536 || got[65535] != submit(0, put(0, 0)) {
		t.Error("more bytes than a script may have:", len(got))
	}
}

func TestLine(t *testing.T) { // 28.2
	for _, x := range []struct {
		e    api.Entry
		want string
	}{
		{tick, "tick"}, {pick(0), "pick 0"}, {pick(math.MaxInt), "pick 9223372036854775807"}, {submit(3, get(5)), "submit 3 get 5"}, {submit(0, put(math.MaxUint64, 0)), "submit 0 put 18446744073709551615 0"}, {submit(1, del(0)), "submit 1 delete 0"}, {submit(1, scan(9, 3, 1000)), "submit 1 scan 9 3 1000"},
		{api.Entry{}, ""}, {api.Entry{Kind: 4}, ""}, {api.Entry{Kind: -1}, ""}, {api.Entry{Kind: api.Tick, Thread: 1}, ""}, {api.Entry{Kind: api.Tick, Op: get(5)}, ""}, {pick(-1), ""}, {api.Entry{Kind: api.Pick, Op: get(0)}, ""}, {api.Entry{Kind: api.Pick, Op: api.Op{Most: 1}}, ""}, {submit(-1, get(5)), ""}, {submit(math.MinInt, get(5)), ""},
		{submit(0, api.Op{}), ""}, {submit(0, scan(1, 2, 0)), ""}, {submit(0, scan(1, 2, 1001)), ""}, {submit(0, scan(1, 2, -1)), ""}, {submit(0, api.Op{Kind: 5}), ""},
		{submit(0, api.Op{Kind: api.Get, Value: 1}), ""}, {submit(0, api.Op{Kind: api.Get, High: 1}), ""}, {submit(0, api.Op{Kind: api.Get, Most: 1}), ""}, {submit(0, api.Op{Kind: api.Put, High: 1}), ""}, {submit(0, api.Op{Kind: api.Put, Most: -1}), ""}, {submit(0, api.Op{Kind: api.Delete, Value: 1}), ""}, {submit(0, api.Op{Kind: api.Delete, High: 1}), ""}, {submit(0, api.Op{Kind: api.Scan, Value: 1, Most: 1}), ""},
	} {
		if got := script.Line(x.e); got != x.want {
			t.Errorf("Line(%v) = %q", x.e, got)
		}
		if x.e.Kind != api.Submit || x.e.Thread < 0 {
			continue
		}
		_, want, _ := strings.Cut(x.want, " ")
		if _, want, _ = strings.Cut(want, " "); script.Op(x.e.Op) != want {
			t.Errorf("Op(%v) = %q", x.e.Op, script.Op(x.e.Op))
		}
	}
	if got := script.Lines(tick, api.Entry{}, pick(-1), submit(0, get(1)), pick(2)); got != "tick\nsubmit 0 get 1\npick 2\n" {
		t.Errorf("Lines: %q", got)
	}
	if script.Lines() != "" || script.Lines(api.Entry{}) != "" {
		t.Error("lines of nothing")
	}
}

func TestParse(t *testing.T) { // 28.3
	for s, want := range map[string][]api.Entry{
		"": nil, "tick": {tick}, "tick\n": {tick}, "tick\npick 5": {tick, pick(5)}, "submit 0 get 1\nsubmit 1 put 2 3\nsubmit 2 delete 4\nsubmit 3 scan 5 6 7\n": {submit(0, get(1)), submit(1, put(2, 3)), submit(2, del(4)), submit(3, scan(5, 6, 7))},
		"pick 9223372036854775807": {pick(math.MaxInt)}, "submit 0 scan 18446744073709551615 0 1000": {submit(0, scan(math.MaxUint64, 0, 1000))},
	} {
		if got, at, e := script.Parse(s); !slices.Equal(got, want) || at != 0 || e != api.OK {
			t.Errorf("Parse(%q) = %v, %d, %d", s, got, at, e)
		}
	}
	great := "18446744073709551616"
	for s, want := range map[string]api.Errno{
		"\n": api.ErrForm, " ": api.ErrForm, "tick ": api.ErrForm, " tick": api.ErrForm, "tick 1": api.ErrForm, "Tick": api.ErrForm, "tick\r": api.ErrForm, "tock": api.ErrForm, "pick": api.ErrForm, "pick ": api.ErrForm, "pick x": api.ErrForm, "pick -1": api.ErrForm, "pick 01": api.ErrForm, "pick +1": api.ErrForm, "pick 1 2": api.ErrForm, "pick  1": api.ErrForm, "pick\t1": api.ErrForm,
		"submit": api.ErrForm, "submit 1": api.ErrForm, "submit get 1": api.ErrForm, "submit 1 get": api.ErrForm, "submit 1 get 2 3": api.ErrForm, "submit 1 put 2": api.ErrForm, "submit 1 put 2 3 4": api.ErrForm, "submit 1 delete": api.ErrForm, "submit 1 scan 1 2": api.ErrForm, "submit 1 scan 1 2 3 4": api.ErrForm, "submit 1 scan 1 2 -3": api.ErrForm, "submit 1 got 1": api.ErrForm, "submit 1 get  1": api.ErrForm, "submit 1 get 1 ": api.ErrForm,
		"pick " + great: api.ErrRange, "pick 9223372036854775808": api.ErrRange, "submit 9223372036854775808 get 1": api.ErrRange, "submit 1 get " + great: api.ErrRange, "submit 1 put 1 " + great: api.ErrRange, "submit 1 delete " + great: api.ErrRange, "submit 1 scan 1 2 9223372036854775808": api.ErrRange, "submit 1 scan " + great + " 2 0": api.ErrRange, "submit 1 scan 1 " + great + " 3": api.ErrRange,
		"pick " + great + " x": api.ErrForm, "submit " + great + " get": api.ErrForm, "submit " + great + " get 01": api.ErrForm, "submit 1 put " + great + " x": api.ErrForm, "submit 1 put " + great + " 2 3": api.ErrForm, "submit 1 scan 1 2 " + strings.Repeat("9", 99): api.ErrRange,
		"submit 1 scan 1 2 0": api.ErrBound, "submit 1 scan 1 2 1001": api.ErrBound, "submit 1 scan 1 2 9223372036854775807": api.ErrBound,
	} {
		for ahead := range 3 {
			all := strings.Repeat("tick\n", ahead) + s
			for _, behind := range []string{"", "\n", "\ntick", "\nwrong\n"} {
				if s == "\n" && behind != "" {
					continue
				}
				if got, at, e := script.Parse(all + behind); len(got) != 0 || at != ahead+1 || e != want {
					t.Errorf("Parse(%q) = %v, %d, %d, not %d", all+behind, got, at, e, want)
				}
			}
		}
	}
	if _, at, e := script.Parse("tick\n\n"); at != 2 || e != api.ErrForm {
		t.Error("an empty line at the end")
	}
}

func TestBackFromLines(t *testing.T) { // 28.4
	var b []byte
	r := uint64(88172645463325252)
	for range 20000 {
		r ^= r << 13
		r ^= r >> 7
		r ^= r << 17
		b = append(b, byte(r>>20))
	}
	for _, threads := range []int{1, 2, 7, 64} {
		all := script.Decode(b, threads)
		for _, e := range all {
			if script.Line(e) == "" || e.Thread >= threads || e.Thread < 0 {
				t.Fatalf("%v has no line, or no thread", e)
			}
		}
		if got, at, e := script.Parse(script.Lines(all...)); !slices.Equal(got, all) || at != 0 || e != api.OK {
			t.Fatalf("they come back otherwise: %d, %d", at, e)
		}
	}
}

func TestExamples(t *testing.T) {
	got := script.Decode([]byte{5, 200, 221, 7, 9}, 4)
	if script.Lines(got...) != "pick 1\ntick\nsubmit 1 put 7 9\n" {
		t.Error("an example:", got)
	}
}
