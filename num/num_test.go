package num_test

import (
	"math"
	"strings"
	"testing"

	"gleaning/api"
	"gleaning/num"
)

const all = ^uint64(0)

var numbers = []uint64{0, 1, 9, 10, 15, 16, 99, 100, 120, 255, 1<<32 - 1, 1 << 63, 1<<63 - 1, 1<<63 + 1, all - 1, all}

func TestTexts(t *testing.T) { // 2.1
	for n, want := range map[uint64]string{0: "0", 7: "7", 120: "120", 1 << 63: "9223372036854775808", all: "18446744073709551615"} {
		if got := num.Text(n); got != want {
			t.Errorf("Text(%d) = %q", n, got)
		}
	}
	for n, want := range map[int]string{0: "0", -5: "-5", 31: "31", math.MaxInt: "9223372036854775807", math.MinInt: "-9223372036854775808"} {
		if got := num.Int(n); got != want {
			t.Errorf("Int(%d) = %q", n, got)
		}
	}
	for n, want := range map[uint64]string{0: "0", 9: "9", 10: "a", 15: "f", 16: "10", 255: "ff", 0xabcdef: "abcdef", all: "ffffffffffffffff"} {
		if got := num.Hex(n); got != want {
			t.Errorf("Hex(%d) = %q", n, got)
		}
	}
}

func TestParse(t *testing.T) { // 2.2
	nines := strings.Repeat("9", 500)
	for s, e := range map[string]api.Errno{
		"": api.ErrForm, "007": api.ErrForm, "00": api.ErrForm, "+1": api.ErrForm, "-1": api.ErrForm, "-0": api.ErrForm, "x": api.ErrForm,
		" 1": api.ErrForm, "1 ": api.ErrForm, "1_0": api.ErrForm, "a": api.ErrForm, "0x1": api.ErrForm, "1.0": api.ErrForm, "/": api.ErrForm, ":": api.ErrForm, "\x00": api.ErrForm, "٣": api.ErrForm,
		"18446744073709551616": api.ErrRange, "18446744073709551620": api.ErrRange, "99999999999999999999": api.ErrRange, "36893488147419103232": api.ErrRange,
		nines: api.ErrRange, nines + "x": api.ErrForm, "x" + nines: api.ErrForm, "0" + nines: api.ErrForm, nines + "-": api.ErrForm,
	} {
		if n, got := num.Parse(s); got != e || n != 0 {
			t.Errorf("Parse(%q) = %d, %d, not %d", s, n, got, e)
		}
	}
}

func TestUnhex(t *testing.T) { // 2.2
	for s, e := range map[string]api.Errno{
		"": api.ErrForm, "0f": api.ErrForm, "F": api.ErrForm, "g": api.ErrForm, "-1": api.ErrForm, "+1": api.ErrForm, "0x1": api.ErrForm, "`": api.ErrForm, " 1": api.ErrForm, "00": api.ErrForm,
		"10000000000000000": api.ErrRange, "fffffffffffffffff": api.ErrRange, "10000000000000000g": api.ErrForm, strings.Repeat("f", 99): api.ErrRange,
	} {
		if n, got := num.Unhex(s); got != e || n != 0 {
			t.Errorf("Unhex(%q) = %d, %d, not %d", s, n, got, e)
		}
	}
	for s, want := range map[string]uint64{"0": 0, "a": 10, "ff": 255, "10": 16, "ffffffffffffffff": all, "8000000000000000": 1 << 63} {
		if n, e := num.Unhex(s); e != api.OK || n != want {
			t.Errorf("Unhex(%q) = %d, %d", s, n, e)
		}
	}
}

func TestParseInt(t *testing.T) { // 2.2
	for s, e := range map[string]api.Errno{
		"": api.ErrForm, "-": api.ErrForm, "-0": api.ErrForm, "--1": api.ErrForm, "+1": api.ErrForm, "-007": api.ErrForm, "-00": api.ErrForm, "01": api.ErrForm, "1-": api.ErrForm, "- 1": api.ErrForm, "-x": api.ErrForm,
		"9223372036854775808": api.ErrRange, "-9223372036854775809": api.ErrRange, "18446744073709551616": api.ErrRange, "-18446744073709551616": api.ErrRange,
		"-18446744073709551615": api.ErrRange, "18446744073709551615": api.ErrRange, "-99999999999999999999x": api.ErrForm,
	} {
		if n, got := num.ParseInt(s); got != e || n != 0 {
			t.Errorf("ParseInt(%q) = %d, %d, not %d", s, n, got, e)
		}
	}
	for _, n := range []int{0, 1, -1, 5, -5, 42, -42, math.MaxInt, math.MinInt, math.MaxInt - 1, math.MinInt + 1} {
		if got, e := num.ParseInt(num.Int(n)); e != api.OK || got != n {
			t.Errorf("ParseInt of Int(%d) = %d, %d", n, got, e)
		}
	}
}

func TestSum(t *testing.T) { // 2.3
	for _, x := range []struct {
		l    []uint64
		want uint64
		e    api.Errno
	}{
		{nil, 0, api.OK}, {[]uint64{5}, 5, api.OK}, {[]uint64{1, 2, 3}, 6, api.OK}, {[]uint64{all}, all, api.OK}, {[]uint64{all, 0, 0}, all, api.OK},
		{[]uint64{all, 1}, 0, api.ErrOver}, {[]uint64{1, all}, 0, api.ErrOver}, {[]uint64{1 << 63, 1 << 63}, 0, api.ErrOver}, {[]uint64{1 << 63, 1<<63 - 1}, all, api.OK},
		{[]uint64{all, all, all, 5}, 0, api.ErrOver}, {[]uint64{1 << 63, 1 << 63, 7}, 0, api.ErrOver},
	} {
		if got, e := num.Sum(x.l...); got != x.want || e != x.e {
			t.Errorf("Sum(%v) = %d, %d", x.l, got, e)
		}
	}
}

func TestBackFromText(t *testing.T) { // 2.4
	for _, n := range numbers {
		if got, e := num.Parse(num.Text(n)); e != api.OK || got != n {
			t.Errorf("Parse of Text(%d) = %d, %d", n, got, e)
		}
		if got, e := num.Unhex(num.Hex(n)); e != api.OK || got != n {
			t.Errorf("Unhex of Hex(%d) = %d, %d", n, got, e)
		}
	}
}
