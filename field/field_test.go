package field

import (
	"math"
	"slices"
	"strconv"
	"testing"
)

// count is a row of bytes that are all different, so that a wrong place or a wrong order is seen.
func count(n int) []byte {
	b := make([]byte, n)
	for i := range b {
		b[i] = byte(0xa1 + i)
	}
	return b
}

// greatest is the greatest number of so many bytes.
func greatest(size int) uint64 {
	return math.MaxUint64 >> (64 - 8*size)
}

type place struct{ at, size int }

// outside are places that no row of n bytes has.
func outside(n int) []place {
	l := []place{
		{n, 1}, {n + 1, 1}, {n - 1, 2}, {n - 7, 8}, {-1, 1}, {-1, 8}, {-8, 8},
		{math.MinInt, 1}, {math.MinInt, 8}, {math.MaxInt, 1}, {math.MaxInt, 8}, {math.MaxInt - 7, 8},
	}
	for _, size := range []int{0, -1, -8, 9, 10, 64, math.MinInt, math.MaxInt} {
		l = append(l, place{0, size}, place{1, size}, place{-size, size}, place{n, size})
	}
	return l
}

func TestGetReadsHighestByteFirst(t *testing.T) {
	b := []byte{0x01, 0x02, 0x03, 0x04, 0x05, 0x06, 0x07, 0x08, 0xff}
	want := []uint64{0x01, 0x0102, 0x010203, 0x01020304, 0x0102030405, 0x010203040506, 0x01020304050607, 0x0102030405060708}
	for i, w := range want {
		if n, ok := Get(b, 0, i+1); !ok || n != w {
			t.Errorf("size %d: %x %v, want %x", i+1, n, ok, w)
		}
	}
	if n, ok := Get(b, 1, 8); !ok || n != 0x02030405060708ff {
		t.Errorf("the last eight: %x %v", n, ok)
	}
	if n, ok := Get(b, 8, 1); !ok || n != 0xff {
		t.Errorf("the last one: %x %v", n, ok)
	}
}

func TestGetReadsZeroAndGreatest(t *testing.T) {
	for size := 1; size <= 8; size++ {
		if n, ok := Get(make([]byte, size), 0, size); !ok || n != 0 {
			t.Errorf("zero of size %d: %x %v", size, n, ok)
		}
		if n, ok := Get(slices.Repeat([]byte{0xff}, size), 0, size); !ok || n != greatest(size) {
			t.Errorf("greatest of size %d: %x %v", size, n, ok)
		}
	}
}

func TestGetEveryPlace(t *testing.T) {
	for length := 0; length <= 10; length++ {
		b := count(length)
		for at := -2; at <= 12; at++ {
			for size := -2; size <= 11; size++ {
				want := 1 <= size && size <= 8 && at >= 0 && at+size <= length
				var w uint64
				for i := 0; want && i < size; i++ {
					w = w*256 + uint64(b[at+i])
				}
				if n, ok := Get(b, at, size); ok != want || n != w {
					t.Errorf("%d bytes, at %d, size %d: %x %v, want %x %v", length, at, size, n, ok, w, want)
				}
			}
		}
		if !slices.Equal(b, count(length)) {
			t.Error("changed", b)
		}
	}
}

func TestGetOutside(t *testing.T) {
	for _, b := range [][]byte{nil, {}, {7}, count(9)} {
		for _, p := range outside(len(b)) {
			if n, ok := Get(b, p.at, p.size); ok || n != 0 {
				t.Errorf("%d bytes, %v: %x %v", len(b), p, n, ok)
			}
		}
	}
}

func TestGetLeavesSpareRoomAlone(t *testing.T) {
	b := count(8)[:3]
	if n, ok := Get(b, 2, 2); ok || n != 0 {
		t.Errorf("a byte that is not in b: %x %v", n, ok)
	}
	if n, ok := Get(b[:0], 0, 1); ok || n != 0 {
		t.Errorf("no byte in b: %x %v", n, ok)
	}
}

func TestPutWritesThereAlone(t *testing.T) {
	const n = 0x0102030405060708
	for size := 1; size <= 8; size++ {
		for at := 0; at+size <= 10; at++ {
			b, want := count(10), count(10)
			for i := range size {
				want[at+i] = byte(8 - size + i + 1)
			}
			if !Put(b, at, size, n&greatest(size)) || !slices.Equal(b, want) {
				t.Errorf("at %d, size %d: %x, want %x", at, size, b, want)
			}
		}
	}
}

func TestPutSmallNumberFillsWithZeros(t *testing.T) {
	b := count(10)
	if !Put(b, 1, 8, 1) || !slices.Equal(b, []byte{0xa1, 0, 0, 0, 0, 0, 0, 0, 1, 0xaa}) {
		t.Errorf("one in eight bytes: %x", b)
	}
	if !Put(b, 9, 1, 0) || b[9] != 0 {
		t.Errorf("zero in one byte: %x", b)
	}
}

func TestPutNumberThatNeedsMoreBytes(t *testing.T) {
	for size := 1; size <= 8; size++ {
		b := count(10)
		if !Put(b, 1, size, greatest(size)) {
			t.Error("the greatest is refused, size", size)
		}
		if size == 8 {
			continue
		}
		before := slices.Clone(b)
		for _, n := range []uint64{greatest(size) + 1, greatest(size + 1), 1 << 63, math.MaxUint64} {
			if Put(b, 1, size, n) || !slices.Equal(b, before) {
				t.Errorf("size %d, %x: taken, or written %x", size, n, b)
			}
		}
	}
}

func TestPutOutsideWritesNothing(t *testing.T) {
	for _, length := range []int{0, 1, 9} {
		b := count(length)
		for _, p := range outside(length) {
			for _, n := range []uint64{0, 1, math.MaxUint64} {
				if Put(b, p.at, p.size, n) || !slices.Equal(b, count(length)) {
					t.Errorf("%d bytes, %v, %x: taken, or written %x", length, p, n, b)
				}
			}
		}
	}
	if Put(nil, 0, 1, 0) || Put([]byte{}, 0, 1, 0) {
		t.Error("taken by no bytes")
	}
}

func TestPutLeavesSpareRoomAlone(t *testing.T) {
	whole := count(8)
	if Put(whole[:3], 2, 2, 0) || Put(whole[:0], 0, 1, 0) || !slices.Equal(whole, count(8)) {
		t.Errorf("written behind the end: %x", whole)
	}
}

func TestPutThenGet(t *testing.T) {
	for size := 1; size <= 8; size++ {
		for _, n := range []uint64{0, 1, 0x80, greatest(size) / 3, greatest(size) - 1, greatest(size)} {
			b := count(10)
			if !Put(b, 2, size, n) {
				t.Errorf("size %d, %x: refused", size, n)
			}
			if x, ok := Get(b, 2, size); !ok || x != n {
				t.Errorf("size %d: %x %v, want %x", size, x, ok, n)
			}
		}
	}
}

func TestAppend(t *testing.T) {
	tests := []struct {
		b    []byte
		size int
		n    uint64
		want []byte
	}{
		{nil, 1, 0, []byte{0}},
		{nil, 2, 0x0102, []byte{1, 2}},
		{[]byte{}, 1, 255, []byte{255}},
		{[]byte{5}, 3, 0x010203, []byte{5, 1, 2, 3}},
		{[]byte{5, 6}, 4, 1, []byte{5, 6, 0, 0, 0, 1}},
		{[]byte{5}, 8, 0x0102030405060708, []byte{5, 1, 2, 3, 4, 5, 6, 7, 8}},
		{[]byte{5}, 8, math.MaxUint64, []byte{5, 255, 255, 255, 255, 255, 255, 255, 255}},
		{[]byte{5}, 8, 0, []byte{5, 0, 0, 0, 0, 0, 0, 0, 0}},
	}
	for _, x := range tests {
		if got := Append(x.b, x.size, x.n); !slices.Equal(got, x.want) {
			t.Errorf("%x, size %d, %x: %x, want %x", x.b, x.size, x.n, got, x.want)
		}
	}
}

func TestAppendRefusedIsRowAlone(t *testing.T) {
	for _, b := range [][]byte{nil, {}, {5}, count(9)} {
		for _, size := range []int{0, -1, -8, 9, 64, math.MinInt, math.MaxInt} {
			for _, n := range []uint64{0, 1, math.MaxUint64} {
				if got := Append(b, size, n); !slices.Equal(got, b) {
					t.Errorf("%x, size %d, %x: %x", b, size, n, got)
				}
			}
		}
		for size := 1; size < 8; size++ {
			for _, n := range []uint64{greatest(size) + 1, math.MaxUint64} {
				if got := Append(b, size, n); !slices.Equal(got, b) {
					t.Errorf("%x, size %d, %x: %x", b, size, n, got)
				}
			}
		}
	}
}

func TestAppendGreatestIsTaken(t *testing.T) {
	for size := 1; size <= 8; size++ {
		want := append([]byte{5}, slices.Repeat([]byte{255}, size)...)
		if got := Append([]byte{5}, size, greatest(size)); !slices.Equal(got, want) {
			t.Errorf("size %d: %x", size, got)
		}
	}
}

func TestAppendIsNewMemory(t *testing.T) {
	for _, x := range []struct {
		size int
		n    uint64
	}{{2, 0x0102}, {8, 3}, {0, 0}, {9, 0}, {1, 256}} {
		t.Run(strconv.Itoa(x.size)+" "+strconv.FormatUint(x.n, 10), func(t *testing.T) {
			whole := count(20)
			first := Append(whole[:3], x.size, x.n)
			if !slices.Equal(whole, count(20)) {
				t.Errorf("b or its spare room is written: %x", whole)
			}
			second := Append(whole[:3], x.size, x.n)
			before := slices.Clone(second)
			clear(first[:cap(first)])
			if !slices.Equal(whole, count(20)) || !slices.Equal(second, before) {
				t.Errorf("memory is shared: %x %x", whole, second)
			}
			clear(whole)
			if !slices.Equal(second, before) {
				t.Errorf("b is kept: %x", second)
			}
		})
	}
}
