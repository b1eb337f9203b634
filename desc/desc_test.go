package desc

import (
	"math"
	"slices"
	"testing"

	"sluicegate/api"
)

// frames are the edges of each of a frame number's two bytes.
func frames() []uint16 {
	return []uint16{0, 1, 90, 127, 128, 255, 256, 257, 0x0102, 0x5a5a, 0x7fff, 0x8000, 0xff00, 0xfffe, 0xffff}
}

// wrongLayers are outside 0 to 2, some of them 0 to 2 in their lowest byte, or in their lowest bits.
func wrongLayers() []int {
	return []int{3, 4, 5, 6, 63, 64, 65, 128, 130, 255, 256, 257, 258, 1 << 32, 1<<32 + 1, math.MaxInt, -1, -2, -254, -255, -256, math.MinInt, math.MinInt + 1}
}

// rightDescs are all that may be, of those frame numbers.
func rightDescs() []api.Desc {
	var list []api.Desc
	for _, frame := range frames() {
		for layer := range 3 {
			for _, key := range []bool{false, true} {
				for _, start := range []bool{false, true} {
					list = append(list, api.Desc{Layer: layer, Key: key, Start: start, Frame: frame})
				}
			}
		}
	}
	return list
}

// wantFirst is the first byte as the chapter says it, as a sum.
func wantFirst(d api.Desc) int {
	n := d.Layer
	if d.Key {
		n += 128
	}
	if d.Start {
		n += 64
	}
	return n
}

func TestMay(t *testing.T) {
	for _, d := range rightDescs() {
		if !May(d) {
			t.Error("refused", d)
		}
	}
	for _, layer := range wrongLayers() {
		for _, d := range rightDescs() {
			d.Layer = layer
			if May(d) {
				t.Error("let in", d)
			}
		}
	}
}

func TestPutBytes(t *testing.T) {
	for _, c := range []struct {
		d    api.Desc
		want []byte
	}{
		{api.Desc{}, []byte{0, 90, 0, 0}},
		{api.Desc{Layer: 1}, []byte{1, 90, 0, 0}},
		{api.Desc{Layer: 2}, []byte{2, 90, 0, 0}},
		{api.Desc{Key: true}, []byte{128, 90, 0, 0}},
		{api.Desc{Start: true}, []byte{64, 90, 0, 0}},
		{api.Desc{Key: true, Start: true}, []byte{192, 90, 0, 0}},
		{api.Desc{Layer: 2, Key: true, Start: true, Frame: 65535}, []byte{194, 90, 255, 255}},
		{api.Desc{Layer: 1, Start: true, Frame: 0x0102}, []byte{65, 90, 1, 2}},
		{api.Desc{Layer: 2, Key: true, Frame: 255}, []byte{130, 90, 0, 255}},
		{api.Desc{Frame: 256}, []byte{0, 90, 1, 0}},
	} {
		if b := Put(c.d); !slices.Equal(b, c.want) {
			t.Errorf("Put(%v) = %v, want %v", c.d, b, c.want)
		}
	}
}

func TestPutAndGetBack(t *testing.T) {
	for _, d := range rightDescs() {
		b := Put(d)
		want := []byte{byte(wantFirst(d)), 90, byte(d.Frame / 256), byte(d.Frame % 256)}
		if !slices.Equal(b, want) {
			t.Errorf("Put(%v) = %v, want %v", d, b, want)
		}
		if got, e := Get(b); e != api.OK || got != d {
			t.Errorf("Get(Put(%v)) = %v, %v", d, got, e)
		}
	}
}

func TestPutWrongLayer(t *testing.T) {
	for _, layer := range wrongLayers() {
		for _, d := range rightDescs() {
			d.Layer = layer
			if b := Put(d); b != nil {
				t.Errorf("Put(%v) = %v, want nil", d, b)
			}
		}
	}
}

func TestPutIsNewMemory(t *testing.T) {
	d := api.Desc{Layer: 1, Key: true, Frame: 0x0304}
	b := Put(d)
	for i := range b[:cap(b)] {
		b[:cap(b)][i] = 255
	}
	if again := Put(d); !slices.Equal(again, []byte{129, 90, 3, 4}) {
		t.Error("a write into one answer is seen in another:", again)
	}
}

// wantForm is the chapter's rule of the first two bytes, by what it names one by one.
func wantForm(first, second int) api.Errno {
	for _, bit := range []int{4, 8, 16, 32} {
		if first/bit%2 == 1 {
			return api.ErrForm
		}
	}
	if first%4 == 3 || second != 90 {
		return api.ErrForm
	}
	return api.OK
}

func TestGetEveryFirstTwo(t *testing.T) {
	for first := range 256 {
		for second := range 256 {
			d, e := Get([]byte{byte(first), byte(second), 1, 2})
			if e != wantForm(first, second) {
				t.Fatalf("first %d, second %d: error %d", first, second, e)
			}
			want := api.Desc{}
			if e == api.OK {
				want = api.Desc{Layer: first % 4, Key: first >= 128, Start: first/64%2 == 1, Frame: 258}
			}
			if d != want {
				t.Fatalf("first %d, second %d: %v, want %v", first, second, d, want)
			}
		}
	}
}

func TestGetEveryFrame(t *testing.T) {
	for high := range 256 {
		for low := range 256 {
			d, e := Get([]byte{66, 90, byte(high), byte(low)})
			if want := (api.Desc{Layer: 2, Start: true, Frame: uint16(256*high + low)}); e != api.OK || d != want {
				t.Fatalf("%d, %d: %v, %d", high, low, d, e)
			}
		}
	}
}

func TestGetTooFew(t *testing.T) {
	// Whatever else is wrong, what is missing is told first.
	for _, whole := range [][]byte{{128, 90, 1, 2}, {0, 90, 0, 0}, {4, 90, 0, 0}, {3, 90, 0, 0}, {0, 91, 0, 0}, {255, 255, 255, 255}} {
		for n := range 4 {
			// The spare room holds what is missing, and must not be read.
			if d, e := Get(whole[:n]); e != api.ErrShort || d != (api.Desc{}) {
				t.Errorf("Get(%v) = %v, %d", whole[:n], d, e)
			}
		}
	}
	if d, e := Get(nil); e != api.ErrShort || d != (api.Desc{}) {
		t.Error("nil:", d, e)
	}
}

func TestGetLeavesTheRest(t *testing.T) {
	for _, more := range []int{1, 2, 3, 4, 508, 1 << 16} {
		for _, fill := range []byte{0, 3, 90, 255} {
			b := append([]byte{129, 90, 3, 4}, slices.Repeat([]byte{fill}, more)...)
			if d, e := Get(b); e != api.OK || d != (api.Desc{Layer: 1, Key: true, Frame: 0x0304}) {
				t.Errorf("%d bytes of %d behind it: %v, %d", more, fill, d, e)
			}
		}
	}
}

func TestGetChangesNothing(t *testing.T) {
	for _, head := range [][]byte{{129, 90, 3, 4}, {255, 90, 3, 4}, {0, 0, 0, 0}, {1, 90}} {
		whole := append(slices.Clone(head), 7, 8, 9)
		before := slices.Clone(whole)
		Get(whole[:len(head)])
		if !slices.Equal(whole, before) {
			t.Errorf("Get(%v) wrote: %v", head, whole)
		}
	}
}
