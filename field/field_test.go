package field_test

import (
	"math"
	"testing"

	"gleaning/field"
)

const all = ^uint64(0)

// words are some that have bits at their ends, and between.
var words = []uint64{0, 1, 2, 5, 0xab, 0xff, 1 << 31, 1<<32 - 1, 1 << 62, 1 << 63, all - 1, all, 0x0123456789abcdef}

// odd are numbers of bits, and sizes, on both sides of every bound.
var odd = []int{math.MinInt, -65, -64, -1, 0, 1, 2, 7, 8, 31, 32, 33, 62, 63, 64, 65, 128, math.MaxInt}

// bitOf tells a bit in the slow way.
func bitOf(w uint64, at int) uint64 {
	if at < 0 || at > 63 {
		return 0
	}
	for range at {
		w /= 2
	}
	return w % 2
}

// power is two to the power of n.
func power(n int) uint64 {
	p := uint64(1)
	for range n {
		p *= 2
	}
	return p
}

// inField tells whether a bit is one of the field's.
func inField(bit, at, size int) bool {
	return at >= 0 && at <= 63 && size >= 1 && bit >= at && bit-at < size
}

func TestMask(t *testing.T) { // 1.1
	for _, size := range odd {
		want := uint64(0)
		for bit := range 64 {
			if bit < size {
				want += power(bit)
			}
		}
		if got := field.Mask(size); got != want {
			t.Errorf("Mask(%d) = %x, not %x", size, got, want)
		}
	}
}

func TestBit(t *testing.T) { // 1.1
	for _, w := range words {
		for _, at := range odd {
			if got := field.Bit(w, at); got != (bitOf(w, at) == 1) {
				t.Errorf("Bit(%x, %d) = %v", w, at, got)
			}
		}
	}
}

func TestWidth(t *testing.T) { // 1.1
	for n := range 64 {
		for _, low := range []uint64{0, power(n) - 1, power(n) / 2} {
			if got := field.Width(power(n) | low); got != n+1 {
				t.Errorf("Width(%x) = %d", power(n)|low, got)
			}
		}
	}
	if field.Width(0) != 0 || field.Width(5) != 3 {
		t.Error("Width of 0, or of 5")
	}
}

func TestGet(t *testing.T) { // 1.2
	for _, w := range words {
		for _, at := range odd {
			for _, size := range odd {
				want := uint64(0)
				for bit := range 64 {
					if inField(bit, at, size) {
						want += bitOf(w, bit) * power(bit-at)
					}
				}
				if got := field.Get(w, at, size); got != want {
					t.Errorf("Get(%x, %d, %d) = %x, not %x", w, at, size, got, want)
				}
			}
		}
	}
}

func TestPut(t *testing.T) { // 1.2
	for _, w := range words {
		for _, v := range words {
			for _, at := range odd {
				for _, size := range odd {
					want := uint64(0)
					for bit := range 64 {
						if inField(bit, at, size) {
							want += bitOf(v, bit-at) * power(bit)
						} else {
							want += bitOf(w, bit) * power(bit)
						}
					}
					if got := field.Put(w, at, size, v); got != want {
						t.Fatalf("Put(%x, %d, %d, %x) = %x, not %x", w, at, size, v, got, want)
					}
				}
			}
		}
	}
}

func TestPutIsGot(t *testing.T) { // 1.5
	for at := range 64 {
		for size := 1; size <= 70; size++ {
			for _, w := range words {
				got := field.Put(w, at, size, 0x0123456789abcdef)
				if field.Get(got, at, size) != 0x0123456789abcdef&field.Mask(size)&field.Mask(64-at) {
					t.Fatal("what was put is not got", w, at, size)
				}
				if out := ^(field.Mask(size) << at); got&out != w&out {
					t.Fatal("a bit outside was turned", w, at, size)
				}
			}
		}
	}
}

func TestSigned(t *testing.T) { // 1.3
	for _, w := range words {
		for _, size := range odd {
			want := int64(0)
			for bit := range 64 {
				if bit < size {
					want += int64(bitOf(w, bit) * power(bit))
				}
			}
			if size >= 1 && size < 64 && bitOf(w, size-1) == 1 {
				want -= int64(power(size))
			}
			if got := field.Signed(w, size); got != want {
				t.Errorf("Signed(%x, %d) = %d, not %d", w, size, got, want)
			}
		}
	}
}

func TestBytesAndWord(t *testing.T) { // 1.4
	if got := field.Bytes(0x0807060504030201); got != [8]byte{1, 2, 3, 4, 5, 6, 7, 8} {
		t.Error("Bytes:", got)
	}
	for _, w := range words {
		b := field.Bytes(w)
		if field.Word(b[:]...) != w {
			t.Errorf("Word of Bytes of %x", w)
		}
		if field.Word(append(b[:], 9, 9)...) != w {
			t.Errorf("Word minds a ninth byte behind %x", w)
		}
	}
	for n := range 9 {
		b := []byte{1, 2, 3, 4, 5, 6, 7, 8}[:n]
		if got := field.Word(b...); got != 0x0807060504030201&field.Mask(8*n) {
			t.Errorf("Word of %d bytes = %x", n, got)
		}
	}
	if field.Word(nil...) != 0 {
		t.Error("Word of nothing")
	}
}

func TestExamples(t *testing.T) {
	if field.Get(0xab, 4, 4) != 10 || field.Put(0xff, 1, 2, 0) != 0xf9 || field.Signed(0xff, 8) != -1 || field.Width(5) != 3 {
		t.Error("an example")
	}
	for _, w := range words {
		if field.Get(w, 60, 10) != w/power(60) {
			t.Errorf("Get(%x, 60, 10)", w)
		}
	}
}
