package patch

import (
	"math"
	"slices"
	"testing"

	"sluicegate/api"
	"sluicegate/desc"
	"sluicegate/rtp"
)

// fill are n bytes, none of them one that a test writes, nor 0.
func fill(n int) []byte {
	b := make([]byte, n)
	for i := range b {
		b[i] = byte(i%50 + 101)
	}
	return b
}

func words(n int) []uint32 {
	w := make([]uint32, n)
	for i := range w {
		w[i] = 0xa1a2a3a4 + uint32(i)
	}
	return w
}

// shape is how great a packet's parts are, so that the tests know where its descriptor begins without asking rtp.
type shape struct {
	csrc, ext, payload, pad int // ext: -1: none
}

func (f shape) descAt() int {
	at := 12 + 4*f.csrc
	if f.ext >= 0 {
		at += 4 + 4*f.ext
	}
	return at
}

// bytes are a packet of this shape, the payload's first bytes are those of head.
func (f shape) bytes(t *testing.T, head []byte) []byte {
	t.Helper()
	p := api.Packet{Marker: true, Type: 111, Seq: 0x7172, Time: 0x73747576, Ssrc: 0x7778797a, Csrc: words(f.csrc), Pad: f.pad}
	if f.ext >= 0 {
		p.HasExt, p.Profile, p.Ext = true, 0xbede, fill(4*f.ext)
	}
	p.Payload = append(slices.Clone(head), fill(f.payload)...)
	b, err := rtp.Put(p)
	if err != api.OK {
		t.Fatal(f, err)
	}
	return b
}

// shapes are packets with and without Csrc, extension, padding and bytes behind the descriptor, up to the longest.
func shapes() []shape {
	var list []shape
	for _, csrc := range []int{0, 1, 2, 15} {
		for _, ext := range []int{-1, 0, 1, 5} {
			for _, payload := range []int{0, 1, 4, 30} {
				for _, pad := range []int{0, 1, 2, 4, 255} {
					list = append(list, shape{csrc, ext, payload, pad})
				}
			}
		}
	}
	return append(list, shape{0, -1, 512 - 16, 0}, shape{15, 10, 512 - 72 - 44 - 4 - 9, 9})
}

// heads are the descriptors of every layer and of every two bits.
func heads() [][]byte {
	var list [][]byte
	for layer := range 3 {
		for _, bits := range []int{0, 64, 128, 192} {
			list = append(list, []byte{byte(bits + layer), 90, 0x7b, 0x7c})
		}
	}
	return list
}

// call is a call that writes; needsDesc: it asks for a descriptor.
type call struct {
	name      string
	needsDesc bool
	do        func(b []byte) bool
}

func calls() []call {
	return []call{
		{"Seq", false, func(b []byte) bool { return Seq(b, 0x0102) }},
		{"Time", false, func(b []byte) bool { return Time(b, 0x03040506) }},
		{"Ssrc", false, func(b []byte) bool { return Ssrc(b, 0x0708090a) }},
		{"Frame 0", true, func(b []byte) bool { return Frame(b, 0, 0x0b0c) }},
		{"Frame 1", true, func(b []byte) bool { return Frame(b, 1, 0x0b0c) }},
		{"Frame 2", true, func(b []byte) bool { return Frame(b, 2, 0x0b0c) }},
		{"Apply", true, func(b []byte) bool {
			return Apply(b, api.Patch{Seq: 0x0102, Time: 0x03040506, Ssrc: 0x0708090a, Frame: 0x0b0c})
		}},
	}
}

// after is what a call is to leave of a packet, byte for byte; at is where its descriptor is.
func after(name string, b []byte, at int) []byte {
	w := slices.Clone(b)
	all := name == "Apply"
	if all || name == "Seq" {
		w[2], w[3] = 1, 2
	}
	if all || name == "Time" {
		w[4], w[5], w[6], w[7] = 3, 4, 5, 6
	}
	if all || name == "Ssrc" {
		w[8], w[9], w[10], w[11] = 7, 8, 9, 10
	}
	layer := map[string]int{"Apply": 0, "Frame 0": 0, "Frame 1": 1, "Frame 2": 2}
	if n, ok := layer[name]; ok {
		w[at] = w[at]/64*64 + byte(n)
		w[at+2], w[at+3] = 11, 12
	}
	return w
}

// spare is b with bytes in its spare room, and a look at all of them.
func spare(b []byte) (within, whole []byte) {
	whole = append(slices.Clone(b), fill(9)...)
	return whole[:len(b)], whole
}

// refused holds that a call answers false, and writes nothing, in the spare room neither.
func refused(t *testing.T, c call, b []byte) {
	t.Helper()
	within, whole := spare(b)
	old := slices.Clone(whole)
	if c.do(within) {
		t.Errorf("%s let in: %v", c.name, b)
	}
	if !slices.Equal(whole, old) {
		t.Errorf("%s wrote: %v, %v", c.name, old, whole)
	}
}

// done holds that a call answers true, and leaves just what it is to.
func done(t *testing.T, c call, b []byte, at int) {
	t.Helper()
	within, whole := spare(b)
	want := append(after(c.name, b, at), whole[len(b):]...)
	if !c.do(within) {
		t.Errorf("%s refused: %v", c.name, b)
	}
	if !slices.Equal(whole, want) {
		t.Errorf("%s: %v, want %v", c.name, whole, want)
	}
}

// noPatch holds that Of answers nothing, and writes nothing.
func noPatch(t *testing.T, b []byte) {
	t.Helper()
	old := slices.Clone(b)
	if p, ok := Of(b); ok || p != (api.Patch{}) {
		t.Errorf("Of: %v of %v", p, b)
	}
	if !slices.Equal(b, old) {
		t.Errorf("Of wrote: %v, %v", old, b)
	}
}

func TestWriteJustTheFields(t *testing.T) {
	for _, f := range shapes() {
		for _, head := range heads() {
			b := f.bytes(t, head)
			for _, c := range calls() {
				done(t, c, b, f.descAt())
			}
		}
	}
}

func TestOf(t *testing.T) {
	for _, f := range shapes() {
		for _, head := range heads() {
			b := f.bytes(t, head)
			old := slices.Clone(b)
			if p, ok := Of(b); !ok || p != (api.Patch{Seq: 0x7172, Time: 0x73747576, Ssrc: 0x7778797a, Frame: 0x7b7c}) {
				t.Errorf("%v: %v %v", f, p, ok)
			}
			if !slices.Equal(b, old) {
				t.Errorf("%v: Of wrote: %v", f, b)
			}
		}
	}
}

// What is written is what rtp, desc and Of read then, at the least and the greatest numbers too.
func TestReadBack(t *testing.T) {
	f := shape{2, 1, 6, 3}
	for _, n := range []uint32{0, 1, 255, 256, 0x7fff, 0x8000, 0xffff, 0x10000, 0x7fffffff, 0x80000000, math.MaxUint32} {
		b := f.bytes(t, []byte{64, 90, 9, 9})
		m := uint16(n)
		if !Seq(b, m) || !Time(b, n) || !Ssrc(b, ^n) || !Frame(b, 2, ^m) {
			t.Fatal("refused", n)
		}
		p, err := rtp.Get(b)
		if err != api.OK || p.Seq != m || p.Time != n || p.Ssrc != ^n {
			t.Errorf("%d: %+v %v", n, p, err)
		}
		if d, err := desc.Get(p.Payload); err != api.OK || d != (api.Desc{Layer: 2, Start: true, Frame: ^m}) {
			t.Errorf("%d: %+v %v", n, d, err)
		}
		if q, ok := Of(b); !ok || q != (api.Patch{Seq: m, Time: n, Ssrc: ^n, Frame: ^m}) {
			t.Errorf("%d: %+v %v", n, q, ok)
		}
	}
}

func TestApplyThenOf(t *testing.T) {
	for _, f := range shapes() {
		b := f.bytes(t, []byte{128 + 2, 90, 1, 1})
		want := api.Patch{Seq: 0xfffe, Time: 0xfffefdfc, Ssrc: 0xc0000001, Frame: 0x8001}
		if !Apply(b, want) {
			t.Fatal("refused", f)
		}
		if got, ok := Of(b); !ok || got != want {
			t.Errorf("%v: %+v %v", f, got, ok)
		}
		if d, _ := desc.Get(b[f.descAt():]); d != (api.Desc{Key: true, Frame: 0x8001}) {
			t.Errorf("%v: %+v", f, d)
		}
		once := slices.Clone(b)
		if !Apply(b, want) || !slices.Equal(b, once) {
			t.Error("twice is not as once", f)
		}
	}
}

func TestApplyZero(t *testing.T) {
	f := shape{1, 0, 1, 0}
	b := f.bytes(t, []byte{192 + 1, 90, 5, 5})
	if !Apply(b, api.Patch{}) {
		t.Fatal("refused")
	}
	if p, ok := Of(b); !ok || p != (api.Patch{}) {
		t.Error(p, ok)
	}
	if at := f.descAt(); b[at] != 192 {
		t.Error("key and start are to stay, the layer is to be 0:", b[at])
	}
}

func TestLayers(t *testing.T) {
	f := shape{1, 2, 3, 4}
	b := f.bytes(t, []byte{192 + 1, 90, 5, 5})
	wrong := []int{-1, -2, -3, -4, -64, -128, -254, -255, -256, 3, 4, 5, 64, 65, 128, 192, 255, 256, 257, 1 << 16, 1 << 32, 1<<32 + 1, 1 << 62, math.MaxInt, math.MinInt, math.MinInt + 1}
	for _, layer := range wrong {
		refused(t, call{"Frame", true, func(b []byte) bool { return Frame(b, layer, 0x0b0c) }}, b)
	}
	for layer := range 3 {
		if !Frame(b, layer, uint16(layer)) || b[f.descAt()] != byte(192+layer) {
			t.Error(layer, b)
		}
	}
}

// Each beginning of a packet without padding is a packet as long as the parts ahead of the payload are there, and has a descriptor as long as that is.
func TestBeginnings(t *testing.T) {
	for _, f := range []shape{{0, -1, 5, 0}, {3, -1, 2, 0}, {0, 0, 2, 0}, {0, 2, 2, 0}, {2, 3, 5, 0}, {15, 1, 0, 0}} {
		whole := f.bytes(t, []byte{65, 90, 5, 5})
		for n := range len(whole) + 1 {
			b := whole[:n:n]
			for _, c := range calls() {
				if n < f.descAt() || c.needsDesc && n < f.descAt()+4 {
					refused(t, c, b)
				} else {
					done(t, c, b, f.descAt())
				}
			}
			if _, ok := Of(b); ok != (n >= f.descAt()+4) {
				t.Errorf("Of: %v of %v", ok, b)
			} else if !ok {
				noPatch(t, b)
			}
		}
	}
}

// With padding that says its own size, none of the beginnings up to the padding's last byte is a packet.
func TestBeginningsWithPadding(t *testing.T) {
	f := shape{1, 1, 0, 3}
	whole := f.bytes(t, []byte{0, 90, 0, 0})
	for n := range len(whole) {
		for _, c := range calls() {
			// The extension, and the descriptor's zeros, are no padding that may be.
			refused(t, c, whole[:n:n])
		}
		noPatch(t, whole[:n:n])
	}
}

// The rest of a short payload may not be taken from the padding, though the bytes would be there.
func TestPaddingIsNoDescriptor(t *testing.T) {
	head := []byte{65, 90, 0, 0}
	for n := range 4 {
		for _, pad := range []int{4 - n, 5, 100} {
			f := shape{1, 1, 0, pad}
			b := f.bytes(t, head[:n])
			for _, c := range calls() {
				if c.needsDesc {
					refused(t, c, b)
				} else {
					done(t, c, b, f.descAt())
				}
			}
			noPatch(t, b)
		}
	}
}

// Every first byte, and every second one: a descriptor's, or none.
func TestNoDescriptor(t *testing.T) {
	f := shape{1, 0, 2, 1}
	for i := range 256 {
		right := i&(4+8+16+32) == 0 && i&3 != 3
		holdHead(t, f, []byte{byte(i), 90, 5, 5}, right)
		holdHead(t, f, []byte{129, byte(i), 5, 5}, i == 90)
	}
}

func holdHead(t *testing.T, f shape, head []byte, right bool) {
	t.Helper()
	b := f.bytes(t, head)
	for _, c := range calls() {
		if c.needsDesc && !right {
			refused(t, c, b)
		} else {
			done(t, c, b, f.descAt())
		}
	}
	if !right {
		noPatch(t, b)
	} else if p, ok := Of(b); !ok || p.Frame != 0x0505 {
		t.Errorf("Of: %v %v of %v", p, ok, b)
	}
}

// noMedia are bytes that are no media packet, one for each error of rtp.Get.
func noMedia(t *testing.T) map[string][]byte {
	right := shape{1, 1, 4, 0}.bytes(t, []byte{65, 90, 5, 5})
	with := func(at int, x byte) []byte {
		b := slices.Clone(right)
		b[at] = x
		return b
	}
	padded := shape{0, -1, 0, 4}.bytes(t, []byte{65, 90, 5, 5})
	wrongPad := slices.Clone(padded)
	wrongPad[len(wrongPad)-2] = 1
	return map[string][]byte{
		"nil":                 nil,
		"empty":               {},
		"one":                 {128},
		"eleven":              right[:11:11],
		"zeros":               make([]byte, 40),
		"513 bytes":           append(shape{0, -1, 496, 0}.bytes(t, []byte{65, 90, 5, 5}), 1),
		"very long":           append(slices.Clone(right), make([]byte, 1<<16)...),
		"version 0":           with(0, right[0]&63),
		"version 1":           with(0, right[0]&63|64),
		"version 3":           with(0, right[0]|192),
		"feedback 192":        with(1, 192),
		"feedback 200":        with(1, 200),
		"feedback 223":        with(1, 223),
		"Csrc beyond the end": with(0, 128+16+15),
		"Ext beyond the end":  with(19, 200),
		"Ext far beyond":      with(18, 255),
		"padding of 0":        append(slices.Clone(padded[:len(padded)-1]), 0),
		"padding too long":    append(slices.Clone(padded[:len(padded)-1]), 9),
		"padding not 0":       wrongPad,
		"nothing to be pad":   {128 + 32, 96, 0, 0, 0, 0, 0, 0, 0, 0, 0, 0},
	}
}

func TestNoMedia(t *testing.T) {
	for name, b := range noMedia(t) {
		if _, err := rtp.Get(b); err == api.OK {
			t.Fatal("a packet after all:", name)
		}
		for _, c := range calls() {
			refused(t, c, b)
		}
		noPatch(t, b)
	}
}

// dice are numbers that look thrown, the same ones each time.
type dice uint64

func (d *dice) next(n int) int {
	*d = *d*6364136223846793005 + 1442695040888963407
	return int(uint64(*d)>>33) % n
}

// Bytes that are mostly no packet, or one with a bit changed: just what rtp.Get and desc.Get say is done.
func TestThrown(t *testing.T) {
	d := dice(6)
	counts := [3]int{}
	for range 20000 {
		f := shape{d.next(3), d.next(4) - 1, d.next(8), d.next(5)}
		b := f.bytes(t, []byte{byte(d.next(256)) & 195, 90, byte(d.next(256)), 7})
		for range d.next(3) {
			b[d.next(len(b))] ^= 1 << d.next(8)
		}
		b = b[:len(b)-d.next(2)*d.next(len(b))]
		counts[holdThrown(t, b)]++
	}
	for i, n := range counts {
		if n < 1000 {
			t.Error("too few of a kind to tell:", i, n)
		}
	}
}

// holdThrown answers what the bytes are: 0 no packet, 1 one without a descriptor, 2 one with it.
func holdThrown(t *testing.T, b []byte) int {
	t.Helper()
	kind := 0
	p, err := rtp.Get(b)
	if err == api.OK {
		kind = 1
		if _, err := desc.Get(p.Payload); err == api.OK {
			kind = 2
		}
	}
	at := len(b) - len(p.Payload) - p.Pad
	for _, c := range calls() {
		if kind == 0 || kind == 1 && c.needsDesc {
			refused(t, c, b)
		} else {
			done(t, c, b, at)
		}
	}
	if kind < 2 {
		noPatch(t, b)
	} else if q, ok := Of(b); !ok || q.Seq != p.Seq || q.Time != p.Time || q.Ssrc != p.Ssrc || q.Frame != uint16(p.Payload[2])<<8|uint16(p.Payload[3]) {
		t.Errorf("Of: %+v %v of %v", q, ok, b)
	}
	return kind
}
