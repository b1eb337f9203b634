package serial

import (
	"math"
	"testing"
)

const top = 1 << 40

// edges16 are where a number of 16 bits may be taken wrongly: round 0, round the half, and some between.
func edges16() []uint16 {
	return []uint16{0, 1, 2, 7, 255, 256, 257, 4464, 32766, 32767, 32768, 32769, 40000, 65279, 65280, 65533, 65534, 65535}
}

func edges32() []uint32 {
	return []uint32{
		0, 1, 2, 255, 256, 32767, 32768, 32769, 65535, 65536, 65537, 1 << 20,
		1<<31 - 2, 1<<31 - 1, 1 << 31, 1<<31 + 1, 3_000_000_000, 1<<32 - 65536, 1<<32 - 2, 1<<32 - 1,
	}
}

// shortWay finds the difference by its definition: the one of its range that, added to b, is a modulo round.
func shortWay(a, b, round int) int {
	d := a - b
	for d < -round/2 {
		d += round
	}
	for d >= round/2 {
		d -= round
	}
	return d
}

// nearest holds every number that ends in s within two rounds of last against the others.
func nearest(last int, s uint16) int {
	last = min(max(last, 0), top)
	best, dist := -1, math.MaxInt
	for n := last - last%65536 - 2*65536 + int(s); n <= last+3*65536; n += 65536 {
		d := max(n-last, last-n)
		if n >= 0 && d <= dist {
			best, dist = n, d
		}
	}
	return best
}

func TestDiff16(t *testing.T) {
	for _, x := range []struct {
		a, b uint16
		want int
	}{
		{0, 0, 0}, {65535, 65535, 0}, {1, 0, 1}, {0, 1, -1}, {5, 3, 2}, {3, 5, -2},
		{0, 65535, 1}, {65535, 0, -1}, {9, 65530, 15}, {65530, 9, -15},
		{32767, 0, 32767}, {32768, 0, -32768}, {0, 32768, -32768}, {32769, 0, -32767}, {0, 32769, 32767},
		{100, 32868, -32768}, {32868, 100, -32768}, {100, 32869, 32767}, {32869, 100, -32767},
	} {
		if d := Diff16(x.a, x.b); d != x.want {
			t.Errorf("Diff16(%d, %d) = %d, want %d", x.a, x.b, d, x.want)
		}
	}
}

func TestDiff32(t *testing.T) {
	for _, x := range []struct {
		a, b uint32
		want int
	}{
		{0, 0, 0}, {1<<32 - 1, 1<<32 - 1, 0}, {1, 0, 1}, {0, 1, -1}, {3, 5, -2},
		{65536, 0, 65536}, {0, 65535, -65535}, {32768, 0, 32768},
		{0, 1<<32 - 1, 1}, {1<<32 - 1, 0, -1},
		{1<<31 - 1, 0, 1<<31 - 1}, {1 << 31, 0, -1 << 31}, {0, 1 << 31, -1 << 31},
		{1<<31 + 1, 0, -1<<31 + 1}, {0, 1<<31 + 1, 1<<31 - 1},
		{7, 1<<31 + 7, -1 << 31}, {1<<31 + 7, 7, -1 << 31},
	} {
		if d := Diff32(x.a, x.b); d != x.want {
			t.Errorf("Diff32(%d, %d) = %d, want %d", x.a, x.b, d, x.want)
		}
	}
}

func TestDiffAndAheadByDefinition16(t *testing.T) {
	for _, b := range edges16() {
		for a := range 65536 {
			want := shortWay(a, int(b), 1<<16)
			if d := Diff16(uint16(a), b); d != want {
				t.Fatalf("Diff16(%d, %d) = %d, want %d", a, b, d, want)
			}
			if is := Ahead16(uint16(a), b); is != (want > 0) {
				t.Fatalf("Ahead16(%d, %d) = %v", a, b, is)
			}
		}
	}
}

func TestDiffAndAheadByDefinition32(t *testing.T) {
	for _, a := range edges32() {
		for _, b := range edges32() {
			want := shortWay(int(a), int(b), 1<<32)
			if d := Diff32(a, b); d != want {
				t.Errorf("Diff32(%d, %d) = %d, want %d", a, b, d, want)
			}
			if is := Ahead32(a, b); is != (want > 0) {
				t.Errorf("Ahead32(%d, %d) = %v", a, b, is)
			}
		}
	}
}

func TestAheadOfItselfOrHalfRound(t *testing.T) {
	for _, a := range edges16() {
		if Ahead16(a, a) || Ahead16(a, a+1<<15) || Ahead16(a+1<<15, a) {
			t.Errorf("16 bits, %d: ahead of itself or of what is half a round away", a)
		}
		if !Ahead16(a+1, a) || Ahead16(a, a+1) || !Ahead16(a+1<<15-1, a) || Ahead16(a, a+1<<15-1) {
			t.Errorf("16 bits, %d: its neighbours", a)
		}
	}
	for _, a := range edges32() {
		if Ahead32(a, a) || Ahead32(a, a+1<<31) || Ahead32(a+1<<31, a) {
			t.Errorf("32 bits, %d: ahead of itself or of what is half a round away", a)
		}
		if !Ahead32(a+1, a) || Ahead32(a, a+1) || !Ahead32(a+1<<31-1, a) || Ahead32(a, a+1<<31-1) {
			t.Errorf("32 bits, %d: its neighbours", a)
		}
	}
}

func TestExtend(t *testing.T) {
	for _, x := range []struct {
		last int
		s    uint16
		want int
	}{
		{0, 0, 0}, {0, 5, 5}, {5, 0, 0}, {70000, 4464, 70000},
		{65535, 0, 65536}, {65536, 65535, 65535}, {131071, 3, 131075}, {131075, 65535, 131071},
		// As near on both sides: the greater.
		{65536 + 32768, 0, 131072}, {40000, 7232, 72768}, {100, 32868, 32868}, {65536, 32768, 98304}, {32768, 0, 65536},
		// One beside that.
		{65536 + 32767, 0, 65536}, {65536 + 32769, 0, 131072}, {65536, 32767, 98303}, {65536, 32769, 32769}, {32767, 0, 0},
		// The nearest of all would lie below 0.
		{0, 65535, 65535}, {0, 32769, 32769}, {0, 32768, 32768}, {1, 65535, 65535}, {32766, 65535, 65535}, {5, 40000, 40000},
	} {
		if n := Extend(x.last, x.s); n != x.want {
			t.Errorf("Extend(%d, %d) = %d, want %d", x.last, x.s, n, x.want)
		}
	}
}

func TestExtendHoldsLast(t *testing.T) {
	for _, s := range edges16() {
		for _, last := range []int{-1, -2, -32768, -65535, -65536, -top, math.MinInt32, math.MinInt + 1, math.MinInt} {
			if n := Extend(last, s); n != int(s) {
				t.Errorf("Extend(%d, %d) = %d, want as of 0: %d", last, s, n, s)
			}
		}
		want := top + int(s)
		if s > 32768 {
			want -= 65536
		}
		for _, last := range []int{top, top + 1, top + 32768, top + 65535, top + 65536, 1 << 50, math.MaxInt - 1, math.MaxInt} {
			if n := Extend(last, s); n != want {
				t.Errorf("Extend(%d, %d) = %d, want as of 2^40: %d", last, s, n, want)
			}
		}
	}
	if n := Extend(top-1, 0xffff); n != top-1 {
		t.Errorf("one below 2^40: %d", n)
	}
	if n := Extend(top-1, 32767); n != top+32767 {
		t.Errorf("half a round ahead of one below 2^40: %d", n)
	}
}

func TestExtendByDefinition(t *testing.T) {
	var lasts []int
	for _, base := range []int{0, 65536, 2 * 65536, 1 << 31, 1 << 32, top - 65536, top} {
		for _, e := range edges16() {
			lasts = append(lasts, base+int(e), base-int(e))
		}
	}
	for _, last := range lasts {
		for s := 0; s < 65536; s += 31 {
			checkNearest(t, last, uint16(s))
		}
		for _, s := range edges16() {
			checkNearest(t, last, s)
			checkNearest(t, last, uint16(last)+s)
		}
	}
}

func checkNearest(t *testing.T, last int, s uint16) {
	t.Helper()
	if n, want := Extend(last, s), nearest(last, s); n != want {
		t.Errorf("Extend(%d, %d) = %d, want %d", last, s, n, want)
	}
}
