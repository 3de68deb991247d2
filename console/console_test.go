package console_test

import (
	"strings"
	"testing"

	"gleaning/api"
	"gleaning/console"
	"gleaning/dump"
	"gleaning/machine"
)

const ready = "config slots=9 threads=2 fan=4 limbo=2 patience=3\n"

// says holds what a text says, behind that of a new machine, to what it should say.
func says(t *testing.T, text, want string) {
	t.Helper()
	if got := console.Run(ready + text); got != "ready\n"+want {
		t.Errorf("%q says %q, not %q", text, got, "ready\n"+want)
	}
}

func TestConfig(t *testing.T) { // 39.1
	for text, want := range map[string]string{
		"": "", "\n": "", "\n\n\n": "", ready: "ready\n", strings.TrimSuffix(ready, "\n"): "ready\n", "\n" + ready + "\n\n" + ready: "ready\nready\n",
		"config": "error\n", "config ": "error\n", "config slots=9 threads=2 fan=4 limbo=2": "error\n", "config slots=9 threads=2 fan=3 limbo=2 patience=3": "error\n", "config slots=0 threads=2 fan=4 limbo=2 patience=3": "error\n", "config  slots=9 threads=2 fan=4 limbo=2 patience=3": "error\n", "config slots=9 threads=2 fan=4 limbo=2 patience=3 ": "error\n", " config slots=9 threads=2 fan=4 limbo=2 patience=3": "error\n", "Config slots=9 threads=2 fan=4 limbo=2 patience=3": "error\n", "config slots=09 threads=2 fan=4 limbo=2 patience=3": "error\n",
	} {
		if got := console.Run(text); got != want {
			t.Errorf("%q says %q, not %q", text, got, want)
		}
	}
}

func TestNewMachine(t *testing.T) { // 39.1: a config line makes another one; one that is wrong does not
	says(t, "submit 0 put 5 50\nfinish 99\npairs\n"+ready+"pairs\ncount", "picked 15\npairs 5=50\nready\npairs\ncount 8 1 0 0 0\n")
	says(t, "submit 0 put 5 50\nfinish 99\nconfig slots=0 threads=2 fan=4 limbo=2 patience=3\npairs", "picked 15\nerror\npairs 5=50\n")
}

func TestNone(t *testing.T) { // 39.2
	for _, line := range []string{"tick", "pick 0", "pick 99", "submit 0 get 5", "run 0 5", "finish 5", "tree", "history", "steps 5", "check", "pairs", "count"} {
		for text, want := range map[string]string{line: "none\n", line + "\n\n" + line + "\n": "none\nnone\n", line + "x": "error\n", line + " ": "error\n", " " + line: "error\n", line + " 7 7": "error\n", "config\n" + line: "error\nnone\n"} {
			if got := console.Run(text); got != want {
				t.Errorf("%q says %q, not %q", text, got, want)
			}
		}
	}
}

func TestErrors(t *testing.T) { // 39.1
	for _, line := range []string{
		" ", "  ", "x", "\t", "tick\r", "Tick", "tick 1", "tick ", " tick", "pick", "pick x", "pick -1", "pick 01", "pick 0 0", "pick 9223372036854775808", "pick 18446744073709551616", "submit", "submit 0", "submit 0 get", "submit 0 get x", "submit 0 get 5 5", "submit 0 scan 1 2 0", "submit 0 scan 1 2 1001", "submit 0 put 1 18446744073709551616", "submit x get 5", "submit 0 take 5",
		"run", "run 0", "run 0 x", "run x 0", "run 0 1000000", "run 1000000 0", "run 0 -1", "run 0 01", "run 0 5 5", "run  0 5", "run 0 5 ", "run 18446744073709551616 1", "finish", "finish x", "finish 1000000", "finish 1 1", "finish ", "finish 05", "finish -1", "steps", "steps x", "steps 1000000", "steps 1 1", "steps -1",
		"tree 1", "tree ", "history 1", "check 1", "check ", "pairs 1", "count 1", "count\t", "trees", "wrong", "error", "none", "ready",
	} {
		says(t, line, "error\n")
		says(t, line+"\ncount\n", "error\ncount 8 1 0 0 0\n")
	}
}

func TestEntries(t *testing.T) { // 39.1
	says(t, "tick\ntick\nsteps 9", "")
	says(t, "pick 0\npick 1\npick 2\npick 9223372036854775807", "idle\nidle\nidle\nidle\n")
	says(t, "submit 2 get 5\nsubmit 0 get 5\npick 0\npick 1\nsteps 9", "idle\nidle\n0 load 3 = 0\n")
	says(t, strings.Repeat("submit 1 get 5\n", 65), "idle\n")
	says(t, "tick\nsubmit 0 get 5\nrun 0 3\nsteps 1", "picked 3\n0 load 1 = 1\n")
	says(t, "submit 0 put 18446744073709551615 18446744073709551615\nfinish 99\npairs", "picked 15\npairs 18446744073709551615=18446744073709551615\n")
}

func TestRunAndFinish(t *testing.T) { // 39.1
	says(t, "run 0 5\nrun 7 5\nrun 0 0\nfinish 0\nfinish 9", "picked 0\npicked 0\npicked 0\npicked 0\npicked 0\n")
	says(t, "submit 0 put 5 50\nrun 0 4\nrun 0 999999\nrun 0 1", "picked 4\npicked 11\npicked 0\n")
	says(t, "submit 0 put 5 50\nsubmit 0 get 5\nrun 0 999999\nhistory", "picked 29\ninvoke 1 thread 0 at 0 put 5 50\nrespond 1 thread 0 at 14 put 5 50 nothing\ninvoke 2 thread 0 at 15 get 5\nrespond 2 thread 0 at 28 get 5 found 50\n")
	says(t, "submit 1 get 5\nsubmit 0 get 5\nfinish 3\nhistory\nsteps 9", "picked 6\ninvoke 1 thread 0 at 0 get 5\ninvoke 2 thread 1 at 1 get 5\n0 load 3 = 0\n1 load 4 = 0\n0 load 0 = 0\n1 load 0 = 0\n0 load 1 = 0\n1 load 1 = 0\n")
	says(t, "submit 1 get 5\nfinish 999999\nfinish 1", "picked 11\npicked 0\n")
}

func TestTree(t *testing.T) { // 39.1
	says(t, "tree\nhistory\nsteps 5\npairs\ncount\ncheck", "anchor inner 1:1\n1:1 leaf\npairs\ncount 8 1 0 0 0\nsound\n")
	says(t, "submit 0 put 1 10\nsubmit 0 put 2 20\nsubmit 0 put 3 30\nsubmit 0 put 4 40\nsubmit 0 put 5 50\nfinish 999\ntree\ncount\npairs\ncheck", "picked 149\nanchor inner 3:1\n3:1 inner 1:1 3 2:1\n1:1 leaf 1=10 2=20 next 2:1\n2:1 leaf 3=30 4=40 5=50\ncount 6 3 0 0 0\npairs 1=10 2=20 3=30 4=40 5=50\nsound\n")
}

func TestSteps(t *testing.T) { // 39.1
	m := machine.New(api.Config{Slots: 9, Threads: 2, Fan: 4, Limbo: 2, Patience: 3})
	m.Do(api.Entry{Kind: api.Submit, Op: api.Op{Kind: api.Put, Key: 5, Value: 50}})
	for m.Do(api.Entry{Kind: api.Pick}) {
	}
	all := m.Steps()
	for text, many := range map[string]int{"0": 0, "1": 1, "7": 7, "15": 15, "16": 15, "999999": 15} {
		says(t, "submit 0 put 5 50\nfinish 99\nsteps "+text, "picked 15\n"+dump.Steps(all[15-many:]...))
	}
}

func TestCountAndLimbo(t *testing.T) { // 39.1: all places
	var text strings.Builder
	for _, k := range []string{"1", "2", "3", "4", "5"} {
		text.WriteString("submit 0 put " + k + " 1\n")
	}
	text.WriteString("submit 0 delete 3\nsubmit 0 delete 4\nfinish 9999\ncount\ncheck\n")
	got := strings.Split(console.Run(ready+text.String()), "\n")
	if got[2] != "count 6 1 2 0 0" || got[3] != "sound" {
		t.Error(got)
	}
	says(t, "submit 0 put 1 1\nsubmit 0 put 2 1\nsubmit 0 put 3 1\nsubmit 0 put 4 1\nfinish 999\nsubmit 0 put 5 1\nrun 0 17\ncount\ncheck", "picked 76\npicked 17\ncount 6 1 0 0 2\nsound\n")
}

func TestFullButNotOver(t *testing.T) { // 39.3: who is Full does nothing, ahead of its being over, too
	text := "config slots=1 threads=2 fan=4 limbo=1 patience=9\nsubmit 0 put 1 1\nsubmit 0 put 2 1\nsubmit 0 put 3 1\nsubmit 0 put 4 1\nfinish 999\n"
	text += "submit 0 put 5 1\nrun 0 37\nsteps 1\nsubmit 1 get 5\nsubmit 1 scan 0 9 9\nrun 1 99\ncheck\nrun 0 9\ncheck\nhistory\n"
	got := strings.Split(console.Run(text), "\n")
	if got[3] != "0 load 20 = 1099511627792 check:65537 effect" || got[5] != "sound" || got[6] != "picked 1" || got[7] != "sound" {
		t.Errorf("%q", got)
	}
	if tail := got[len(got)-2]; !strings.HasSuffix(tail, "put 5 1 full") {
		t.Errorf("%q", tail)
	}
}

func TestTooLong(t *testing.T) { // 39.1
	most := ready + strings.Repeat("tick\n", (65536-len(ready))/5)
	most += strings.Repeat("\n", 65536-len(most))
	if got := console.Run(most); got != "ready\n" {
		t.Errorf("as long as it may be: %q", got)
	}
	if got := console.Run(most + "\n"); got != "" {
		t.Errorf("too long: %q", got)
	}
	if got := console.Run(strings.Repeat("\xff\x00", 40) + "\n"); got != "error\n" {
		t.Errorf("any bytes: %q", got)
	}
}

func TestBeginnings(t *testing.T) { // 39.3
	text := ready + "submit 0 put 5 50\nsubmit 1 scan 0 9 5\n\nfinish 9\nx\ntree\nsteps 4\ntick\ncheck\nfinish 99\nhistory\npick 0\n" + ready + "count\npairs\n"
	all := console.Run(text)
	for i := range text {
		if text[i] == '\n' && !strings.HasPrefix(all, console.Run(text[:i+1])) {
			t.Errorf("what is cut off behind the byte %d says %q", i, console.Run(text[:i+1]))
		}
	}
	if strings.Count(all, "sound\n") != 1 || !strings.HasSuffix(all, "idle\nready\ncount 8 1 0 0 0\npairs\n") {
		t.Errorf("%q", all)
	}
}

func TestAlwaysSound(t *testing.T) { // 39.3
	r := uint64(88172645463325252)
	next := func(n int) int {
		r ^= r << 13
		r ^= r >> 7
		r ^= r << 17
		return int(r >> 20 % uint64(n))
	}
	digit := func(n int) string { return dump.Mark(api.Mark{Kind: -1, A: uint64(n)})[len("none:"):] }
	for range 40 {
		text := "config slots=" + digit(9+next(12)) + " threads=3 fan=4 limbo=1 patience=2\n"
		checks := 0
		for range 400 {
			key := digit(1 + next(20))
			switch next(9) {
			case 0:
				text += "tick\n"
			case 1:
				text += "check\n"
				checks++
			case 2, 3:
				text += "submit " + digit(1+next(2)) + " put " + key + " 7\n"
			case 4:
				text += "submit " + digit(1+next(2)) + " delete " + key + "\n"
			case 5:
				text += "submit 0 scan 0 " + key + " 9\n"
			default:
				text += "run " + digit(1+next(2)) + " " + digit(1+next(40)) + "\nrun 0 " + digit(1+next(9)) + "\n"
			}
		}
		if got := console.Run(text); strings.Count(got, "sound\n") != checks || strings.Contains(got, "wrong") || strings.Contains(got, "error") {
			t.Fatalf("%q", got)
		}
	}
}

func TestExamples(t *testing.T) {
	got := console.Run("config slots=3 threads=1 fan=4 limbo=1 patience=3\nsubmit 0 put 5 50\nfinish 99\npairs\ncheck")
	if got != "ready\npicked 15\npairs 5=50\nsound\n" {
		t.Errorf("an example: %q", got)
	}
}
