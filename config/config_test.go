package config_test

import (
	"math"
	"strings"
	"testing"

	"gleaning/api"
	"gleaning/config"
)

var (
	words  = []string{"slots", "threads", "fan", "limbo", "patience"}
	leasts = []int{1, 1, 4, 1, 1}
	mosts  = []int{1000, 64, 64, 64, 1048576}
)

func of(n []int) api.Config {
	return api.Config{Slots: n[0], Threads: n[1], Fan: n[2], Limbo: n[3], Patience: n[4]}
}

func TestCheck(t *testing.T) { // 7.1
	for i, word := range words {
		for _, n := range []int{leasts[i], leasts[i] + 1, mosts[i] - 1, mosts[i]} {
			l := []int{9, 2, 4, 3, 5}
			l[i] = n
			if w, e := config.Check(of(l)); w != "" || e != api.OK || !config.Right(of(l)) {
				t.Errorf("%v: %q, %d", l, w, e)
			}
		}
		for _, n := range []int{leasts[i] - 1, 0, -1, mosts[i] + 1, math.MinInt, math.MaxInt} {
			if n >= leasts[i] && n <= mosts[i] {
				continue
			}
			l := []int{9, 2, 4, 3, 5}
			l[i] = n
			if w, e := config.Check(of(l)); w != word || e != api.ErrBound || config.Right(of(l)) {
				t.Errorf("%v: %q, %d", l, w, e)
			}
			for j := i + 1; j < len(l); j++ {
				l[j] = -1
				if w, _ := config.Check(of(l)); w != word {
					t.Errorf("%v: %q is no first one", l, w)
				}
			}
		}
	}
	if w, e := config.Check(api.Config{}); w != "slots" || e != api.ErrBound {
		t.Error("the zero one:", w, e)
	}
}

func TestLeast(t *testing.T) { // 7.2
	for fan, want := range map[int]int{3: 0, 4: 2, 5: 2, 6: 3, 7: 3, 63: 31, 64: 32, 65: 0, 0: 0, -6: 0} {
		if got := config.Least(api.Config{Slots: 1, Threads: 1, Fan: fan, Limbo: 1, Patience: 1}); got != want {
			t.Errorf("Least of a fan of %d = %d", fan, got)
		}
	}
	if config.Least(api.Config{Fan: 8}) != 0 {
		t.Error("Least of one that may not be")
	}
}

func TestText(t *testing.T) { // 7.3, 7.4
	c := api.Config{Slots: 9, Threads: 2, Fan: 4, Limbo: 3, Patience: 5}
	if got := config.Text(c); got != "slots=9 threads=2 fan=4 limbo=3 patience=5" {
		t.Error(got)
	}
	for i := range words {
		for _, n := range []int{leasts[i], mosts[i]} {
			l := []int{9, 2, 4, 3, 5}
			l[i] = n
			if got, e := config.Parse(config.Text(of(l))); e != api.OK || got != of(l) {
				t.Errorf("%v comes back as %v, %d", l, got, e)
			}
		}
		l := []int{9, 2, 4, 3, 5}
		l[i] = mosts[i] + 1
		if config.Text(of(l)) != "" {
			t.Errorf("%v has a text", l)
		}
	}
	if config.Text(api.Config{}) != "" {
		t.Error("the zero one has a text")
	}
}

func TestParse(t *testing.T) { // 7.3
	great := "18446744073709551616"
	for s, want := range map[string]api.Errno{
		"": api.ErrForm, " ": api.ErrForm, "slots=9": api.ErrForm,
		"slots=9 threads=2 fan=4 limbo=3":                                          api.ErrForm,
		"slots=9 threads=2 fan=4 limbo=3 patience=5 ":                              api.ErrForm,
		" slots=9 threads=2 fan=4 limbo=3 patience=5":                              api.ErrForm,
		"slots=9  threads=2 fan=4 limbo=3 patience=5":                              api.ErrForm,
		"slots=9 threads=2 fan=4 limbo=3 patience=5\n":                             api.ErrForm,
		"threads=2 slots=9 fan=4 limbo=3 patience=5":                               api.ErrForm,
		"Slots=9 threads=2 fan=4 limbo=3 patience=5":                               api.ErrForm,
		"slots=-9 threads=2 fan=4 limbo=3 patience=5":                              api.ErrForm,
		"slots=-0 threads=2 fan=4 limbo=3 patience=5":                              api.ErrForm,
		"slots=09 threads=2 fan=4 limbo=3 patience=5":                              api.ErrForm,
		"slots= threads=2 fan=4 limbo=3 patience=5":                                api.ErrForm,
		"slots9 threads=2 fan=4 limbo=3 patience=5":                                api.ErrForm,
		"slots==9 threads=2 fan=4 limbo=3 patience=5":                              api.ErrForm,
		"slots:9 threads=2 fan=4 limbo=3 patience=5":                               api.ErrForm,
		"slots=9\tthreads=2 fan=4 limbo=3 patience=5":                              api.ErrForm,
		"slots=0 threads=2 fan=4 limbo=3 patience=05":                              api.ErrForm,
		"slots=" + great + " threads=2 fan=4 limbo=3 patience=x":                   api.ErrForm,
		"slots=1001 threads=2 fan=4 limbo=3 patience":                              api.ErrForm,
		"slots=9 threads=2 fan=4 limbo=3 patience=5 more=1":                        api.ErrForm,
		"slots=0 threads=2 fan=4 limbo=3 patience=5":                               api.ErrBound,
		"slots=1001 threads=2 fan=4 limbo=3 patience=5":                            api.ErrBound,
		"slots=9 threads=65 fan=4 limbo=3 patience=5":                              api.ErrBound,
		"slots=9 threads=2 fan=3 limbo=3 patience=5":                               api.ErrBound,
		"slots=9 threads=2 fan=4 limbo=0 patience=5":                               api.ErrBound,
		"slots=9 threads=2 fan=4 limbo=3 patience=1048577":                         api.ErrBound,
		"slots=9 threads=2 fan=4 limbo=3 patience=" + great:                        api.ErrBound,
		"slots=18446744073709551615 threads=2 fan=4 limbo=3 patience=5":            api.ErrBound,
		"slots=9223372036854775808 threads=2 fan=4 limbo=3 patience=5":             api.ErrBound,
		"slots=4294967297 threads=2 fan=4 limbo=3 patience=5":                      api.ErrBound,
		"slots=" + strings.Repeat("9", 99) + " threads=0 fan=4 limbo=3 patience=5": api.ErrBound,
	} {
		if c, e := config.Parse(s); e != want || c != (api.Config{}) {
			t.Errorf("Parse(%q) = %v, %d, not %d", s, c, e, want)
		}
	}
}

func TestExamples(t *testing.T) {
	if w, e := config.Check(api.Config{Slots: 9, Threads: 2, Fan: 3, Limbo: 1, Patience: 1}); w != "fan" || e != api.ErrBound {
		t.Error(w, e)
	}
	if w, e := config.Check(api.Config{Slots: 9, Threads: 2, Fan: 3}); w != "fan" || e != api.ErrBound {
		t.Error(w, e)
	}
}
