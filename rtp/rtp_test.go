package rtp

import (
	"fmt"
	"math"
	"reflect"
	"slices"
	"testing"

	"sluicegate/api"
)

// bytesOf are n bytes, none of them 0.
func bytesOf(n int) []byte {
	b := make([]byte, n)
	for i := range b {
		b[i] = byte(i%255 + 1)
	}
	return b
}

// wordsOf are n words, each of four bytes of its own.
func wordsOf(n int) []uint32 {
	w := make([]uint32, n)
	for i := range w {
		w[i] = 0xa0b0c0d0 + uint32(i)*0x01010101
	}
	return w
}

// wantBytes are a packet's bytes as the chapter tells them, part behind part.
func wantBytes(p api.Packet) []byte {
	first := 128 + len(p.Csrc)
	if p.Pad > 0 {
		first += 32
	}
	if p.HasExt {
		first += 16
	}
	second := p.Type
	if p.Marker {
		second += 128
	}
	b := []byte{byte(first), byte(second), byte(p.Seq / 256), byte(p.Seq % 256)}
	b = append(b, fourBytes(p.Time)...)
	b = append(b, fourBytes(p.Ssrc)...)
	for _, c := range p.Csrc {
		b = append(b, fourBytes(c)...)
	}
	if p.HasExt {
		count := len(p.Ext) / 4
		b = append(b, byte(p.Profile/256), byte(p.Profile%256), byte(count/256), byte(count%256))
		b = append(b, p.Ext...)
	}
	b = append(b, p.Payload...)
	if p.Pad > 0 {
		b = append(b, make([]byte, p.Pad-1)...)
		b = append(b, byte(p.Pad))
	}
	return b
}

func fourBytes(n uint32) []byte {
	return []byte{byte(n / 0x1000000), byte(n / 0x10000 % 256), byte(n / 256 % 256), byte(n % 256)}
}

// same holds two packets against each other; a nil list is an empty one.
func same(p, q api.Packet) bool {
	if !slices.Equal(p.Csrc, q.Csrc) || !slices.Equal(p.Ext, q.Ext) || !slices.Equal(p.Payload, q.Payload) {
		return false
	}
	p.Csrc, p.Ext, p.Payload = nil, nil, nil
	q.Csrc, q.Ext, q.Payload = nil, nil, nil
	return reflect.DeepEqual(p, q)
}

// full has all there is.
func full() api.Packet {
	return api.Packet{Marker: true, Type: 96, Seq: 0x0102, Time: 0x03040506, Ssrc: 0x0708090a, Csrc: wordsOf(2), HasExt: true, Profile: 0xbede, Ext: bytesOf(8), Payload: bytesOf(5), Pad: 4}
}

// rightPackets are of every number of Csrc, with many sizes of all else; some are too long to be written.
func rightPackets() []api.Packet {
	var list []api.Packet
	add := func(p api.Packet) {
		for _, pad := range []int{0, 1, 2, 5, 254, 255} {
			for _, payload := range []int{0, 1, 4, 100} {
				p.Pad, p.Payload = pad, bytesOf(payload)
				list = append(list, p)
			}
		}
	}
	for n := range 16 {
		p := api.Packet{Type: 3 * n, Seq: uint16(n) << 12, Time: uint32(n) << 28, Ssrc: ^uint32(n), Csrc: wordsOf(n), Marker: n%2 == 1}
		add(p)
		p.HasExt = true
		for _, count := range []int{0, 1, 2, 9} {
			p.Profile, p.Ext = uint16(count*0x1234), bytesOf(4*count)
			add(p)
		}
	}
	return list
}

// wrongPackets are each wrong in one thing.
func wrongPackets() []api.Packet {
	list := []api.Packet{
		{Csrc: wordsOf(16)}, {Csrc: wordsOf(17)}, {Csrc: wordsOf(32)}, {Csrc: wordsOf(256)}, {Csrc: wordsOf(1 << 16)},
		{Ext: bytesOf(4)}, {Ext: bytesOf(1)}, {Profile: 1}, {Profile: 65535}, {Ext: bytesOf(600)},
	}
	for _, n := range []int{-1, -32, -64, -95, -128, -256, 128, 129, 192, 255, 256, 300, 1 << 32, 1<<32 + 5, math.MaxInt, math.MinInt} {
		list = append(list, api.Packet{Type: n}, api.Packet{Type: n, Marker: true})
	}
	for n := 64; n <= 95; n++ {
		list = append(list, api.Packet{Type: n, Marker: true})
	}
	for _, n := range []int{1, 2, 3, 5, 6, 7, 4097} {
		list = append(list, api.Packet{HasExt: true, Ext: bytesOf(n)})
	}
	for _, n := range []int{-1, -2, -256, 256, 257, 512, 1 << 32, 1<<32 + 1, math.MaxInt, math.MinInt} {
		list = append(list, api.Packet{Pad: n})
	}
	return list
}

func TestMay(t *testing.T) {
	for _, p := range rightPackets() {
		if !May(p) {
			t.Errorf("refused: %+v", p)
		}
	}
	for _, p := range wrongPackets() {
		if May(p) {
			t.Errorf("let in: %+v", p)
		}
	}
}

func TestMayEveryType(t *testing.T) {
	for kind := -300; kind <= 300; kind++ {
		within := kind >= 0 && kind <= 127
		feedback := kind >= 64 && kind <= 95
		if May(api.Packet{Type: kind}) != within {
			t.Error("without Marker:", kind)
		}
		if May(api.Packet{Type: kind, Marker: true}) != (within && !feedback) {
			t.Error("with Marker:", kind)
		}
	}
}

func TestMayEveryPadAndCount(t *testing.T) {
	for n := -300; n <= 600; n++ {
		if May(api.Packet{Pad: n}) != (n >= 0 && n <= 255) {
			t.Error("Pad", n)
		}
	}
	for n := range 40 {
		if May(api.Packet{Csrc: wordsOf(n)}) != (n <= 15) {
			t.Error("Csrc", n)
		}
		if May(api.Packet{HasExt: true, Ext: bytesOf(n)}) != (n%4 == 0) {
			t.Error("Ext", n)
		}
		if May(api.Packet{Ext: bytesOf(n)}) != (n == 0) {
			t.Error("Ext without HasExt", n)
		}
	}
}

func TestMayHasNoLimitOfBytes(t *testing.T) {
	for _, p := range []api.Packet{{Payload: bytesOf(501)}, {Payload: bytesOf(1 << 20)}, {HasExt: true, Ext: bytesOf(4 * 65535)}, {HasExt: true, Ext: bytesOf(4 * 65536)}} {
		if !May(p) {
			t.Error("refused", len(p.Payload), len(p.Ext))
		}
	}
}

func TestSize(t *testing.T) {
	for _, p := range rightPackets() {
		if n := Size(p); n != len(wantBytes(p)) {
			t.Errorf("Size(%+v) = %d, want %d", p, n, len(wantBytes(p)))
		}
	}
	for _, p := range wrongPackets() {
		if n := Size(p); n != 0 {
			t.Errorf("Size(%+v) = %d, want 0", p, n)
		}
	}
	for _, c := range []struct {
		p    api.Packet
		want int
	}{
		{api.Packet{}, 12}, {api.Packet{HasExt: true}, 16}, {api.Packet{Csrc: wordsOf(15)}, 72}, {api.Packet{Pad: 255}, 267}, {full(), 12 + 8 + 4 + 8 + 5 + 4},
		{api.Packet{Payload: bytesOf(500)}, 512}, {api.Packet{Payload: bytesOf(501)}, 513}, {api.Packet{Payload: bytesOf(1 << 20)}, 12 + 1<<20}, {api.Packet{HasExt: true, Ext: bytesOf(1 << 19)}, 16 + 1<<19},
	} {
		if n := Size(c.p); n != c.want {
			t.Errorf("Size = %d, want %d", n, c.want)
		}
	}
}

func TestPutBytes(t *testing.T) {
	for _, c := range []struct {
		p    api.Packet
		want []byte
	}{
		{api.Packet{}, []byte{128, 0, 0, 0, 0, 0, 0, 0, 0, 0, 0, 0}},
		{api.Packet{Marker: true}, []byte{128, 128, 0, 0, 0, 0, 0, 0, 0, 0, 0, 0}},
		{api.Packet{Type: 64}, []byte{128, 64, 0, 0, 0, 0, 0, 0, 0, 0, 0, 0}},
		{api.Packet{Marker: true, Type: 63}, []byte{128, 191, 0, 0, 0, 0, 0, 0, 0, 0, 0, 0}},
		{api.Packet{Marker: true, Type: 96}, []byte{128, 224, 0, 0, 0, 0, 0, 0, 0, 0, 0, 0}},
		{api.Packet{Marker: true, Type: 127}, []byte{128, 255, 0, 0, 0, 0, 0, 0, 0, 0, 0, 0}},
		{api.Packet{Seq: 0x0102, Time: 0x03040506, Ssrc: 0x0708090a}, []byte{128, 0, 1, 2, 3, 4, 5, 6, 7, 8, 9, 10}},
		{api.Packet{Csrc: []uint32{0x01020304, 0xfffefdfc}}, []byte{130, 0, 0, 0, 0, 0, 0, 0, 0, 0, 0, 0, 1, 2, 3, 4, 255, 254, 253, 252}},
		{api.Packet{HasExt: true}, []byte{144, 0, 0, 0, 0, 0, 0, 0, 0, 0, 0, 0, 0, 0, 0, 0}},
		{api.Packet{HasExt: true, Profile: 0xbede, Ext: []byte{9, 8, 7, 6}}, []byte{144, 0, 0, 0, 0, 0, 0, 0, 0, 0, 0, 0, 0xbe, 0xde, 0, 1, 9, 8, 7, 6}},
		{api.Packet{Payload: []byte{5, 6}}, []byte{128, 0, 0, 0, 0, 0, 0, 0, 0, 0, 0, 0, 5, 6}},
		{api.Packet{Pad: 1}, []byte{160, 0, 0, 0, 0, 0, 0, 0, 0, 0, 0, 0, 1}},
		{api.Packet{Payload: []byte{5}, Pad: 3}, []byte{160, 0, 0, 0, 0, 0, 0, 0, 0, 0, 0, 0, 5, 0, 0, 3}},
	} {
		if b, e := Put(c.p); e != api.OK || !slices.Equal(b, c.want) {
			t.Errorf("Put(%+v) = %v, %d, want %v", c.p, b, e, c.want)
		}
	}
}

func TestPutAndGetBack(t *testing.T) {
	for _, p := range rightPackets() {
		want := wantBytes(p)
		b, e := Put(p)
		if len(want) > 512 {
			if b != nil || e != api.ErrRange {
				t.Errorf("%d bytes: Put = %v, %d", len(want), b, e)
			}
			continue
		}
		if e != api.OK || !slices.Equal(b, want) {
			t.Errorf("Put(%+v) = %v, %d, want %v", p, b, e, want)
		}
		if got, e := Get(want); e != api.OK || !same(got, p) {
			t.Errorf("Get(Put(%+v)) = %+v, %d", p, got, e)
		}
		to := len(want) - p.Pad
		if from, end, e := Offset(want); e != api.OK || from != to-len(p.Payload) || end != to {
			t.Errorf("Offset(Put(%+v)) = %d, %d, %d", p, from, end, e)
		}
	}
}

func TestPutEveryTypeAndBack(t *testing.T) {
	for kind := range 128 {
		for _, marker := range []bool{false, true} {
			p := api.Packet{Type: kind, Marker: marker, Payload: []byte{1}}
			b, e := Put(p)
			if marker && kind >= 64 && kind <= 95 {
				if e != api.ErrForm || b != nil {
					t.Error("feedback's type", kind, b, e)
				}
				continue
			}
			got, f := Get(b)
			if e != api.OK || f != api.OK || !same(got, p) {
				t.Error(kind, marker, e, f, got)
			}
		}
	}
}

// Around 512 bytes, whatever part the last byte is of.
func TestPutAtTheLimit(t *testing.T) {
	for _, c := range []struct {
		p    api.Packet
		want api.Errno
	}{
		{api.Packet{Payload: bytesOf(499)}, api.OK},
		{api.Packet{Payload: bytesOf(500)}, api.OK},
		{api.Packet{Payload: bytesOf(501)}, api.ErrRange},
		{api.Packet{Payload: bytesOf(1 << 20)}, api.ErrRange},
		{api.Packet{Payload: bytesOf(245), Pad: 255}, api.OK},
		{api.Packet{Payload: bytesOf(246), Pad: 255}, api.ErrRange},
		{api.Packet{HasExt: true, Ext: bytesOf(496)}, api.OK},
		{api.Packet{HasExt: true, Ext: bytesOf(496), Pad: 1}, api.ErrRange},
		{api.Packet{HasExt: true, Ext: bytesOf(500)}, api.ErrRange},
		// A word count that goes round to 0, or to 1, must not make these short.
		{api.Packet{HasExt: true, Ext: bytesOf(4 * 65536)}, api.ErrRange},
		{api.Packet{HasExt: true, Ext: bytesOf(4 * 65537)}, api.ErrRange},
		{api.Packet{Csrc: wordsOf(15), HasExt: true, Ext: bytesOf(4), Payload: bytesOf(177), Pad: 255}, api.OK},
		{api.Packet{Csrc: wordsOf(15), HasExt: true, Ext: bytesOf(4), Payload: bytesOf(178), Pad: 255}, api.ErrRange},
	} {
		b, e := Put(c.p)
		if e != c.want {
			t.Errorf("%d bytes: error %d, want %d", Size(c.p), e, c.want)
		}
		if e != api.OK {
			if b != nil {
				t.Error("bytes beside an error")
			}
			continue
		}
		if got, f := Get(b); f != api.OK || !same(got, c.p) || !slices.Equal(b, wantBytes(c.p)) {
			t.Errorf("%d bytes: not told back, %d", len(b), f)
		}
	}
}

func TestPutWrong(t *testing.T) {
	for _, p := range wrongPackets() {
		if b, e := Put(p); b != nil || e != api.ErrForm {
			t.Errorf("Put(%+v) = %v, %d", p, b, e)
		}
		// What may not be is told ahead of what is too long.
		p.Payload = bytesOf(600)
		if b, e := Put(p); b != nil || e != api.ErrForm {
			t.Errorf("too long, too: Put = %v, %d", b, e)
		}
	}
}

// spare is a list with room behind it that holds just fill.
func spare[T any](list []T, fill T) []T {
	whole := append(slices.Clone(list), fill, fill, fill)
	return whole[:len(list)]
}

func TestPutLeavesItsPacket(t *testing.T) {
	p := full()
	p.Csrc, p.Ext, p.Payload = spare(p.Csrc, 77), spare(p.Ext, 77), spare(p.Payload, 77)
	before := full()
	b, _ := Put(p)
	for i := range b[:cap(b)] {
		b[:cap(b)][i] = 200
	}
	if !same(p, before) {
		t.Errorf("the packet was changed: %+v", p)
	}
	for i := range 3 {
		if p.Csrc[:5][2+i] != 77 || p.Ext[:11][8+i] != 77 || p.Payload[:8][5+i] != 77 {
			t.Error("spare room was changed")
		}
	}
	p.Csrc[0], p.Ext[0], p.Payload[0] = 1, 2, 3
	if again, _ := Put(full()); !slices.Equal(again, wantBytes(before)) {
		t.Error("an answer hangs on one before it:", again)
	}
}

func TestPutNilAndEmpty(t *testing.T) {
	p := api.Packet{HasExt: true, Pad: 2}
	q := api.Packet{HasExt: true, Pad: 2, Csrc: []uint32{}, Ext: []byte{}, Payload: []byte{}}
	a, e := Put(p)
	b, f := Put(q)
	if e != api.OK || f != api.OK || !slices.Equal(a, b) || Size(p) != Size(q) || !May(q) {
		t.Error(a, e, b, f)
	}
	if q := (api.Packet{Ext: []byte{}}); !May(q) || Size(q) != 12 {
		t.Error("an empty Ext counts as one")
	}
}

// head is a packet's first twelve bytes, and what stands behind these.
func head(first, second byte, rest ...byte) []byte {
	return append([]byte{first, second, 1, 2, 3, 4, 5, 6, 7, 8, 9, 10}, rest...)
}

// refused asks both readers for an error with nothing beside it.
func refused(t *testing.T, b []byte, want api.Errno) {
	t.Helper()
	p, e := Get(b)
	if e != want || !reflect.DeepEqual(p, api.Packet{}) {
		t.Errorf("Get(%v) = %+v, %d, want %d", b, p, e, want)
	}
	from, to, e := Offset(b)
	if e != want || from != 0 || to != 0 {
		t.Errorf("Offset(%v) = %d, %d, %d, want %d", b, from, to, e, want)
	}
}

func TestGetTooMany(t *testing.T) {
	for _, n := range []int{513, 514, 1 << 16, 1 << 20} {
		for _, first := range []byte{0, 64, 128, 144, 160, 255} {
			for _, second := range []byte{0, 200} {
				b := make([]byte, n)
				b[0], b[1] = first, second
				refused(t, b, api.ErrRange)
			}
		}
	}
	if p, e := Get(head(128, 0, bytesOf(500)...)); e != api.OK || len(p.Payload) != 500 {
		t.Error("512:", e)
	}
}

func TestGetFewerThanAHead(t *testing.T) {
	refused(t, nil, api.ErrShort)
	for n := range 12 {
		for _, first := range []byte{0, 128, 192, 255} {
			for _, second := range []byte{0, 192, 255} {
				// The spare room holds the rest, and must not be read.
				refused(t, head(first, second, 9, 9, 9)[:n], api.ErrShort)
			}
		}
	}
}

func TestGetEveryFirstTwo(t *testing.T) {
	for first := range 256 {
		for second := range 256 {
			b := head(byte(first), byte(second))
			want := api.OK
			switch {
			case first/64 != 2:
				want = api.ErrForm
			case second >= 192 && second <= 223:
				want = api.ErrKind
			case first%16 > 0 || first/16%2 == 1:
				want = api.ErrShort
			case first/32%2 == 1:
				want = api.ErrForm
			}
			if want != api.OK {
				refused(t, b, want)
				continue
			}
			p, e := Get(b)
			if q := (api.Packet{Marker: second >= 128, Type: second % 128, Seq: 0x0102, Time: 0x03040506, Ssrc: 0x0708090a}); e != api.OK || !same(p, q) {
				t.Fatal(first, second, p, e)
			}
		}
	}
}

// Each beginning of a packet tells what is missing of it, and never reads behind its end.
func TestGetEachBeginning(t *testing.T) {
	p := full()
	p.Pad, p.Payload = 0, nil
	whole, _ := Put(p)
	for n := range whole {
		refused(t, whole[:n], api.ErrShort)
	}
	if got, e := Get(whole); e != api.OK || !same(got, p) {
		t.Error("the whole:", got, e)
	}
	// With padding the last byte of each longer beginning is 0, or more than are left.
	p.Pad, p.Payload = 3, []byte{9, 9}
	ahead := len(whole)
	whole, _ = Put(p)
	for n := range whole {
		want := api.ErrShort
		if n >= ahead {
			want = api.ErrForm
		}
		refused(t, whole[:n], want)
	}
}

func TestGetMissing(t *testing.T) {
	for count := 1; count <= 15; count++ {
		for n := range 4 * count {
			refused(t, head(byte(128+count), 0, bytesOf(n)...), api.ErrShort)
		}
		p, e := Get(head(byte(128+count), 0, bytesOf(4*count)...))
		if e != api.OK || len(p.Csrc) != count || len(p.Payload) != 0 {
			t.Error(count, p, e)
		}
	}
	for n := range 4 {
		refused(t, head(144, 0, bytesOf(n)...), api.ErrShort)
	}
	// The word count is of two bytes, and its high one counts.
	for _, c := range [][]byte{{0, 1}, {0, 124}, {0, 125}, {1, 0}, {128, 0}, {64, 0}, {255, 255}} {
		words := 256*int(c[0]) + int(c[1])
		for _, n := range []int{0, 4*words - 1} {
			if n <= 496 {
				refused(t, head(144, 0, append([]byte{0, 0, c[0], c[1]}, bytesOf(n)...)...), api.ErrShort)
			}
		}
		if words > 124 {
			refused(t, head(144, 0, append([]byte{0, 0, c[0], c[1]}, bytesOf(496)...)...), api.ErrShort)
		}
	}
}

func TestGetExtension(t *testing.T) {
	p, e := Get(head(144, 0, 0xbe, 0xde, 0, 0))
	if e != api.OK || !p.HasExt || p.Profile != 0xbede || len(p.Ext) != 0 || len(p.Payload) != 0 {
		t.Error("an extension of no words:", p, e)
	}
	p, e = Get(head(144, 0, 0xbe, 0xde, 0, 0, 4, 5))
	if e != api.OK || !p.HasExt || len(p.Ext) != 0 || !slices.Equal(p.Payload, []byte{4, 5}) {
		t.Error("a payload behind no words:", p, e)
	}
	p, e = Get(head(129, 0, 0xbe, 0xde, 0, 0, 4, 5))
	if e != api.OK || p.HasExt || p.Profile != 0 || !slices.Equal(p.Csrc, []uint32{0xbede0000}) || !slices.Equal(p.Payload, []byte{4, 5}) {
		t.Error("no extension:", p, e)
	}
	b := head(144, 0, append([]byte{0, 7, 0, 124}, bytesOf(496)...)...)
	if p, e = Get(b); e != api.OK || p.Profile != 7 || !slices.Equal(p.Ext, bytesOf(496)) || len(p.Payload) != 0 {
		t.Error("124 words:", p, e)
	}
	if from, to, e := Offset(b); from != 512 || to != 512 || e != api.OK {
		t.Error("124 words:", from, to, e)
	}
}

func TestGetPadding(t *testing.T) {
	refused(t, head(160, 0), api.ErrForm)
	refused(t, head(161, 0, 1, 2, 3, 4), api.ErrForm)
	refused(t, head(176, 0, 0, 0, 0, 0), api.ErrForm)
	refused(t, head(176, 0, 0, 0, 0, 1, 0, 0, 0, 1), api.ErrForm)
	// Every last byte behind every number of zeros.
	for zeros := range 301 {
		for last := range 256 {
			b := head(160, 0, append(make([]byte, zeros), byte(last))...)
			if last == 0 || last > zeros+1 {
				refused(t, b, api.ErrForm)
				continue
			}
			p, e := Get(b)
			if e != api.OK || p.Pad != last || !slices.Equal(p.Payload, make([]byte, zeros+1-last)) {
				t.Fatal(zeros, last, p, e)
			}
			if from, to, e := Offset(b); e != api.OK || from != 12 || to != 13+zeros-last {
				t.Fatal(zeros, last, from, to, e)
			}
		}
	}
}

// Each byte of the padding but the last is 0; those ahead of it are the payload's.
func TestGetPaddingNotZero(t *testing.T) {
	for _, pad := range []int{1, 2, 3, 16, 254, 255} {
		for at := range pad + 1 {
			b := head(160, 0, make([]byte, pad+2)...)
			b[len(b)-1] = byte(pad)
			if at < 2 {
				b[12+at] = 200
				if p, e := Get(b); e != api.OK || p.Pad != pad || p.Payload[at] != 200 {
					t.Error(pad, at, p, e)
				}
				continue
			}
			b[12+at] = 1
			refused(t, b, api.ErrForm)
			b[12+at] = 128
			refused(t, b, api.ErrForm)
		}
	}
}

// Padding is counted from what is left behind the Csrc and Ext, not from the head's end.
func TestGetPaddingIntoTheHead(t *testing.T) {
	for _, c := range []struct {
		b    []byte
		want api.Errno
	}{
		{head(161, 0, 0, 0, 0, 0, 1), api.OK},
		{head(161, 0, 0, 0, 0, 0, 2), api.ErrForm},
		{head(161, 0, 0, 0, 0, 0, 5), api.ErrForm},
		{head(176, 0, 0, 0, 0, 1, 0, 0, 0, 0, 0, 2), api.OK},
		{head(176, 0, 0, 0, 0, 1, 0, 0, 0, 0, 0, 3), api.ErrForm},
		{head(176, 0, 0, 0, 0, 0, 0, 2), api.OK},
		{head(176, 0, 0, 0, 0, 0, 0, 3), api.ErrForm},
	} {
		if _, e := Get(c.b); e != c.want {
			t.Errorf("Get(%v): error %d, want %d", c.b, e, c.want)
		}
	}
}

func TestErrorsInOrder(t *testing.T) {
	long := make([]byte, 501)
	for _, c := range []struct {
		b    []byte
		want api.Errno
	}{
		{head(0, 200, long...), api.ErrRange},
		{head(0, 200)[:11], api.ErrShort},
		{head(0, 200), api.ErrForm},
		{head(65, 200), api.ErrForm},
		{head(241, 200, 1), api.ErrForm},
		{head(191, 200), api.ErrKind},
		{head(191, 200, make([]byte, 64)...), api.ErrKind},
		{head(160, 200), api.ErrKind},
		{head(177, 0, 1, 2, 3, 0), api.ErrShort},
		{head(177, 0, 1, 2, 3, 4, 0, 0, 0), api.ErrShort},
		{head(177, 0, 1, 2, 3, 4, 0, 0, 0, 2, 0, 0, 0, 0), api.ErrShort},
		{head(177, 0, 1, 2, 3, 4, 0, 0, 0, 1, 0, 0, 0, 0), api.ErrForm},
		{head(177, 0, 1, 2, 3, 4, 0, 0, 0, 1, 0, 0, 0, 0, 0), api.ErrForm},
	} {
		refused(t, c.b, c.want)
	}
}

// wantErr is Get's error by the chapter's words, by taking parts off the bytes one behind the other.
func wantErr(b []byte) api.Errno {
	if len(b) > 512 {
		return api.ErrRange
	}
	if len(b) < 12 {
		return api.ErrShort
	}
	first, second, rest := int(b[0]), int(b[1]), b[12:]
	if first < 128 || first > 191 {
		return api.ErrForm
	}
	if second >= 192 && second <= 223 {
		return api.ErrKind
	}
	for range first % 16 {
		if len(rest) < 4 {
			return api.ErrShort
		}
		rest = rest[4:]
	}
	if first/16%2 == 1 {
		if len(rest) < 4 {
			return api.ErrShort
		}
		words := int(rest[2])*256 + int(rest[3])
		rest = rest[4:]
		if len(rest)/4 < words {
			return api.ErrShort
		}
		rest = rest[4*words:]
	}
	if first/32%2 == 0 {
		return api.OK
	}
	return wantPadErr(rest)
}

func wantPadErr(rest []byte) api.Errno {
	if len(rest) == 0 {
		return api.ErrForm
	}
	pad := int(rest[len(rest)-1])
	if pad == 0 || pad > len(rest) {
		return api.ErrForm
	}
	for i := 2; i <= pad; i++ {
		if rest[len(rest)-i] != 0 {
			return api.ErrForm
		}
	}
	return api.OK
}

// dice is a row of numbers that is the same each time.
type dice uint64

func (d *dice) below(n int) int {
	*d = *d*6364136223846793005 + 1442695040888963407
	return int(uint64(*d)>>33) % n
}

// anyBytes have small counts and many zeros, so that much of them is right, or nearly so.
func anyBytes(d *dice) []byte {
	b := make([]byte, d.below(60))
	for i := range b {
		if d.below(3) == 0 {
			b[i] = byte(d.below(256))
		}
	}
	if len(b) > 1 {
		b[0] = byte(128 + 16*d.below(4) + d.below(16)*d.below(2)*d.below(2))
		b[1] = byte(d.below(256))
	}
	if len(b) > 12 {
		b[len(b)-1] = byte(d.below(8))
	}
	return b
}

// Get is OK just of what Put tells, and tells what was put.
func TestGetJustOfWhatPutTells(t *testing.T) {
	d := dice(5)
	seen := map[api.Errno]int{}
	for range 200000 {
		b := anyBytes(&d)
		before := slices.Clone(b)
		p, e := Get(b)
		seen[e]++
		if want := wantErr(b); e != want {
			t.Fatalf("Get(%v): error %d, want %d", b, e, want)
		}
		if e != api.OK {
			refused(t, b, e)
		} else if again, f := Put(p); f != api.OK || !slices.Equal(again, b) || Size(p) != len(b) || !May(p) {
			t.Fatalf("Put(Get(%v)) = %v, %d", b, again, f)
		}
		if !slices.Equal(b, before) {
			t.Fatal("the bytes were changed:", before)
		}
	}
	for _, e := range []api.Errno{api.OK, api.ErrForm, api.ErrShort, api.ErrKind} {
		if seen[e] < 1000 {
			t.Error("too few of error", e, seen[e])
		}
	}
}

// Whatever one byte of a packet is made, it is refused, or it is what another packet tells.
func TestGetOneByteOther(t *testing.T) {
	whole, _ := Put(full())
	for at := range whole {
		for x := range 256 {
			b := slices.Clone(whole)
			b[at] = byte(x)
			p, e := Get(b)
			if e != wantErr(b) {
				t.Fatalf("byte %d is %d: error %d, want %d", at, x, e, wantErr(b))
			}
			if e != api.OK {
				refused(t, b, e)
			} else if again, _ := Put(p); !slices.Equal(again, b) {
				t.Fatalf("byte %d is %d: %v", at, x, again)
			}
		}
	}
}

func TestGetIsNewMemory(t *testing.T) {
	b, _ := Put(full())
	b = spare(b, 77)
	p, _ := Get(b)
	q, _ := Get(b)
	for i := range b[:cap(b)] {
		b[:cap(b)][i] = 200
	}
	if !same(p, full()) {
		t.Errorf("the packet lies in the bytes: %+v", p)
	}
	for i := range b[:cap(b)] {
		b[:cap(b)][i] = 77
	}
	scribble(p.Csrc)
	scribble(p.Ext)
	if !slices.Equal(p.Payload, full().Payload) {
		t.Error("Ext and Payload share memory")
	}
	scribble(p.Payload)
	if !same(q, full()) {
		t.Errorf("two answers share memory: %+v", q)
	}
	for i, x := range b[:cap(b)] {
		if x != 77 {
			t.Error("a write into an answer is seen in the bytes:", i)
		}
	}
}

// The lists without elements lead nowhere, either.
func TestGetIsNewMemoryWithoutElements(t *testing.T) {
	b := spare(head(144, 0, 0, 0, 0, 0), 77)
	p, e := Get(b)
	if e != api.OK {
		t.Fatal(e)
	}
	before := slices.Clone(b[:cap(b)])
	scribble(p.Csrc)
	scribble(p.Ext)
	scribble(p.Payload)
	if !slices.Equal(b[:cap(b)], before) {
		t.Error("a write into an answer is seen in the bytes:", b[:cap(b)])
	}
}

// scribble writes into all of a list, its spare room, too.
func scribble[T byte | uint32](list []T) {
	for i := range list[:cap(list)] {
		list[:cap(list)][i] = 99
	}
}

func ExamplePut() {
	b, err := Put(api.Packet{Type: 96, Seq: 1, Time: 2, Ssrc: 3, Payload: []byte{4}})
	fmt.Println(b, err == api.OK)
	// Output: [128 96 0 1 0 0 0 2 0 0 0 3 4] true
}
