package stamp

import (
	"bytes"
	"fmt"
	"math"
	"reflect"
	"slices"
	"testing"

	"sluicegate/api"
	"sluicegate/gate"
)

const (
	round16 = 1 << 16
	round32 = 1 << 32
)

var both = []bool{false, true}

// dice throws the same numbers in every run.
type dice uint64

func (d *dice) throw(n int) int {
	*d = *d*6364136223846793005 + 1442695040888963407
	return int(*d>>33) % n
}

func (d *dice) word() uint32 {
	return uint32(d.throw(round16))<<16 | uint32(d.throw(round16))
}

// pick takes one of all.
func pick[T any](d *dice, all []T) T {
	return all[d.throw(len(all))]
}

// edges are the numbers there are of peers and sources, those beside them, and numbers far from them.
func edges() []int {
	return []int{
		math.MinInt, math.MinInt + 1, -1 << 32, -1<<32 + 1, -256, -255, -2, -1, 0, 1, 2, 3, 4, 5, 6, 7, 8, 9, 10, 255, 256, 257, 65536, 65537,
		1 << 31, 1 << 32, 1<<32 + 1, 1<<32 + 8, math.MaxInt - 1, math.MaxInt,
	}
}

// layers are those there are, those beside them, and numbers far from them.
func layers() []int {
	return []int{math.MinInt, -257, -2, -1, 0, 1, 2, 3, 4, 256, 257, 1 << 32, 1<<32 + 1, math.MaxInt}
}

// words16 and words32 are where a number may be taken wrongly: round 0, round the half, and some between.
func words16() []uint16 {
	return []uint16{0, 1, 2, 255, 256, 32766, 32767, 32768, 32769, 40000, 65533, 65534, 65535}
}

func words32() []uint32 {
	return []uint32{0, 1, 2, 2999, 3000, 65535, 65536, 1<<31 - 1, 1 << 31, 3735928559, 1<<32 - 3001, 1<<32 - 3000, 1<<32 - 2999, 1<<32 - 2, 1<<32 - 1}
}

// anyTrack is a Track with an edge in each field, whatever stands beside it.
func anyTrack(d *dice) api.Track {
	return api.Track{
		Gate:   api.Gate{Want: pick(d, layers()), Cur: pick(d, layers()), Paused: d.throw(8) == 0, Muted: d.throw(8) == 0},
		Course: api.Course{Live: d.throw(2) == 0, In: pick(d, words16()), Off: pick(d, words16()), Next: pick(d, words16())},
		Clock:  api.Clock{Any: d.throw(2) == 0, Off: pick(d, words32()), Last: pick(d, words32())},
		Out:    pick(d, words32()), Frame: pick(d, words16()), Sent: pick(d, words32()), Octets: pick(d, words32()),
	}
}

// anyPacket is a packet that has something in each field.
func anyPacket(d *dice) api.Packet {
	p := api.Packet{
		Marker: d.throw(2) == 0, Type: d.throw(300) - 100, Seq: pick(d, words16()), Time: pick(d, words32()), Ssrc: d.word(),
		HasExt: d.throw(2) == 0, Profile: uint16(d.throw(round16)), Pad: d.throw(9) - 3,
		Csrc: make([]uint32, d.throw(4), 9), Ext: make([]byte, d.throw(9), 20),
	}
	if n := d.throw(20); n > 0 {
		p.Payload = make([]byte, n-1, 30)
	}
	for i := range p.Payload {
		p.Payload[i] = byte(d.throw(256))
	}
	return p
}

// anyItem is an item that has something in each field, whatever its kind has.
func anyItem(d *dice) api.Item {
	return api.Item{
		Kind: pick(d, kinds()), Ssrc: d.word(), Ntp: uint64(d.word())<<32 | uint64(d.word()), Time: pick(d, words32()),
		Packets: d.word(), Octets: d.word(), Media: d.word(),
		Blocks: make([]api.Block, d.throw(3)), Gone: make([]uint32, d.throw(3)), Pairs: make([]api.Pair, d.throw(3)),
	}
}

// kinds are those of items, those beside them, and numbers far from them.
func kinds() []int {
	return []int{
		api.ISender, api.IReceiver, api.IBye, api.IAgain, api.IPicture,
		math.MinInt, -200, -1, 0, 1, 199, 202, 204, 207, 456, 1<<32 + 200, math.MaxInt,
	}
}

// The model, written apart from the code and from the layers below it: the chapters' words as they stand, in numbers that
// go round nowhere but in modulo.

func modulo(n, round int) int {
	return (n%round + round) % round
}

// took is what is to come of a packet.
func took(t api.Track, p api.Packet, d api.Desc) (api.Track, api.Patch, int) {
	if t.Gate.Paused || t.Gate.Muted {
		return t, api.Patch{}, 4
	}
	next, verdict := t, 0
	live, first := t.Course.Live, int(t.Clock.Off)
	if d.Key && d.Start && d.Layer == t.Gate.Want && d.Layer != t.Gate.Cur {
		verdict = 2
		next.Gate.Cur = d.Layer
		live, first = false, -int(p.Time)
		if t.Clock.Any {
			first += int(t.Clock.Last) + 3000
		}
	} else if d.Layer == t.Gate.Cur {
		verdict = 1
	} else {
		return t, api.Patch{}, 3
	}
	if live {
		if d := modulo(int(p.Seq)-int(t.Course.In), round16); d == 0 || d > 32767 {
			return t, api.Patch{}, 5
		}
	}
	seq := int(t.Course.Next)
	next.Course = api.Course{
		Live: true, In: p.Seq, Off: uint16(modulo(seq-int(p.Seq), round16)), Next: uint16(modulo(seq+1, round16)),
	}
	time := modulo(int(p.Time)+first, round32)
	next.Clock = api.Clock{Any: true, Off: uint32(modulo(first, round32)), Last: uint32(time)}
	if d.Start {
		next.Frame = uint16(modulo(int(t.Frame)+1, round16))
	}
	next.Sent = uint32(modulo(int(t.Sent)+1, round32))
	next.Octets = uint32(modulo(int(t.Octets)+len(p.Payload), round32))
	return next, api.Patch{Seq: uint16(seq), Time: uint32(time), Ssrc: t.Out, Frame: next.Frame}, verdict
}

// told is what is to come of a report.
func told(t api.Track, i api.Item, layer int) (api.Item, int) {
	switch {
	case t.Gate.Paused, t.Gate.Muted:
		return api.Item{}, 4
	case layer != t.Gate.Cur:
		return api.Item{}, 3
	case i.Kind != 200:
		return api.Item{}, 3
	}
	time := modulo(int(i.Time)+int(t.Clock.Off), round32)
	return api.Item{Kind: 200, Ssrc: t.Out, Ntp: i.Ntp, Time: uint32(time), Packets: t.Sent, Octets: t.Octets}, 1
}

// copyPacket and copyItem are new memory.
func copyPacket(p api.Packet) api.Packet {
	p.Csrc, p.Ext, p.Payload = slices.Clone(p.Csrc), bytes.Clone(p.Ext), bytes.Clone(p.Payload)
	return p
}

func copyItem(i api.Item) api.Item {
	i.Blocks, i.Gone, i.Pairs = slices.Clone(i.Blocks), slices.Clone(i.Gone), slices.Clone(i.Pairs)
	return i
}

// take takes one packet, and holds the answer against the model; Media must leave all as it is, and say the same again.
func take(t *testing.T, x api.Track, p api.Packet, d api.Desc) (api.Track, api.Patch, int) {
	t.Helper()
	was, wasPacket, wasDesc := x, copyPacket(p), d
	want, patch, verdict := took(x, p, d)
	for range 2 {
		next, told, v := Media(x, p, d)
		if next != want || told != patch || v != verdict {
			t.Fatalf("Media(%+v, %+v, %+v) = %+v, %+v, %d, want %+v, %+v, %d", was, p, d, next, told, v, want, patch, verdict)
		}
		if x != was || d != wasDesc || !reflect.DeepEqual(p, wasPacket) {
			t.Fatalf("Media left %+v, %+v, %+v of %+v, %+v, %+v", x, p, d, was, wasPacket, wasDesc)
		}
	}
	if verdict != api.VSent && verdict != api.VSwitch && (want != was || patch != (api.Patch{})) {
		t.Fatal("the model", was, want, patch, verdict)
	}
	return want, patch, verdict
}

// tell tells of one report, likewise.
func tell(t *testing.T, x api.Track, i api.Item, layer int) (api.Item, int) {
	t.Helper()
	was, wasItem := x, copyItem(i)
	want, verdict := told(x, i, layer)
	for range 2 {
		out, v := Report(x, i, layer)
		if v != verdict || !same(out, want) {
			t.Fatalf("Report(%+v, %+v, %d) = %+v, %d, want %+v, %d", was, i, layer, out, v, want, verdict)
		}
		if x != was || !reflect.DeepEqual(i, wasItem) {
			t.Fatalf("Report left %+v, %+v of %+v, %+v", x, i, was, wasItem)
		}
	}
	return want, verdict
}

// same holds two items that have no lists against each other.
func same(a, b api.Item) bool {
	if len(a.Blocks)+len(a.Gone)+len(a.Pairs)+len(b.Blocks)+len(b.Gone)+len(b.Pairs) > 0 {
		return false
	}
	a.Blocks, a.Gone, a.Pairs, b.Blocks, b.Gone, b.Pairs = nil, nil, nil, nil, nil, nil
	return reflect.DeepEqual(a, b)
}

// packet is one of a number, a time and a payload of so many bytes.
func packet(seq uint16, time uint32, octets int) api.Packet {
	return api.Packet{Seq: seq, Time: time, Payload: make([]byte, octets)}
}

// keyFrame is what stands first in a layer's first packet of a key frame.
func keyFrame(layer int) api.Desc {
	return api.Desc{Layer: layer, Key: true, Start: true}
}

// sent holds that a packet is sent, and as what.
func sent(t *testing.T, x api.Track, p api.Packet, d api.Desc, v int, want api.Patch) api.Track {
	t.Helper()
	next, patch, verdict := take(t, x, p, d)
	if verdict != v || patch != want {
		t.Fatalf("Media(%+v, %+v, %+v) tells %+v, %d, want %+v, %d", x, p, d, patch, verdict, want, v)
	}
	return next
}

// kept holds that a packet is not sent, for the reason v, and that nothing has changed.
func kept(t *testing.T, x api.Track, p api.Packet, d api.Desc, v int) {
	t.Helper()
	if next, patch, verdict := take(t, x, p, d); verdict != v || patch != (api.Patch{}) || next != x {
		t.Fatalf("Media(%+v, %+v, %+v) = %+v, %+v, %d, want it as it was, %d", x, p, d, next, patch, verdict, v)
	}
}

func TestOut(t *testing.T) {
	for _, x := range []struct {
		peer, source int
		want         uint32
	}{
		{1, 1, 0xC0000101}, {1, 8, 0xC0000108}, {8, 1, 0xC0000801}, {8, 8, 0xC0000808}, {2, 1, 0xC0000201}, {5, 3, 0xC0000503}, {3, 5, 0xC0000305},
		{0, 0, 0}, {0, 1, 0}, {1, 0, 0}, {9, 1, 0}, {1, 9, 0}, {8, 9, 0}, {9, 8, 0}, {0, 8, 0}, {8, 0, 0}, {9, 9, 0}, {-1, 1, 0}, {1, -1, 0}, {-1, -1, 0},
		{math.MaxInt, 1, 0}, {1, math.MaxInt, 0}, {math.MinInt, 1, 0}, {1, math.MinInt, 0}, {math.MaxInt, math.MinInt, 0},
		{1<<32 + 1, 1, 0}, {1, 1<<32 + 1, 0}, {1 << 24, 1, 0}, {0, 257, 0}, {2, -255, 0}, {1, 257, 0},
	} {
		for range 2 {
			if n := Out(x.peer, x.source); n != x.want {
				t.Errorf("Out(%d, %d) = %#x, want %#x", x.peer, x.source, n, x.want)
			}
		}
	}
	seen := map[uint32]bool{}
	for _, peer := range edges() {
		for _, source := range edges() {
			n := Out(peer, source)
			if peer < 1 || peer > 8 || source < 1 || source > 8 {
				if n != 0 {
					t.Errorf("Out(%d, %d) = %#x", peer, source, n)
				}
				continue
			}
			if int(n) != 3221225472+256*peer+source || seen[n] || n < api.OutSsrc {
				t.Errorf("Out(%d, %d) = %#x", peer, source, n)
			}
			seen[n] = true
		}
	}
	if len(seen) != 64 {
		t.Error(len(seen))
	}
}

// whose holds Whose of a number against what is meant; and Out against both.
func whose(t *testing.T, ssrc uint32, wantPeer, wantSource int) {
	t.Helper()
	some := wantPeer > 0
	for range 2 {
		if peer, source, ok := Whose(ssrc); peer != wantPeer || source != wantSource || ok != some {
			t.Fatalf("Whose(%#x) = %d, %d, %v, want %d, %d", ssrc, peer, source, ok, wantPeer, wantSource)
		}
	}
	if some && Out(wantPeer, wantSource) != ssrc {
		t.Fatalf("Out(%d, %d) = %#x, want %#x", wantPeer, wantSource, Out(wantPeer, wantSource), ssrc)
	}
}

func TestWhose(t *testing.T) {
	outs := map[uint32][2]int{}
	for peer := 1; peer <= 8; peer++ {
		for source := 1; source <= 8; source++ {
			outs[uint32(3221225472+256*peer+source)] = [2]int{peer, source}
		}
	}
	// Each number round those that Out gives, and likewise further off: those that are the same in their last bytes.
	for _, base := range []uint32{api.OutSsrc, 0, api.OutSsrc + 1<<16, api.OutSsrc - 1<<16, api.OutSsrc + 1<<24, api.OutSsrc - 1<<24, 1 << 30, 1 << 31} {
		for k := -70; k < 3000; k++ {
			n := base + uint32(k)
			x := outs[n]
			whose(t, n, x[0], x[1])
		}
	}
	whose(t, 0xC0000503, 5, 3)
	whose(t, 0xC0000101, 1, 1)
	whose(t, 0xC0000808, 8, 8)
	for _, n := range []uint32{
		0, 1, api.RouterSsrc, 257, 0x0101, 0x0808, api.OutSsrc - 1, api.OutSsrc, api.OutSsrc + 1, 0xC0000100, 0xC0000109, 0xC0000901, 0xC0000809,
		0xC0000800, 0xBFFFFEFF, 0xBFFFFF01, 0x40000101, 0x80000101, 0xC0010101, 0xC1000101, 0xC0001101, 0xFFFFFFFE, 0xFFFFFFFF,
	} {
		whose(t, n, 0, 0)
	}
	d := dice(3)
	for range 20000 {
		n := d.word()
		x := outs[n]
		whose(t, n, x[0], x[1])
	}
}

func TestNew(t *testing.T) {
	for _, peer := range edges() {
		for _, source := range edges() {
			for _, want := range layers() {
				held := 0
				if want == 1 {
					held = 1
				} else if want > 1 {
					held = 2
				}
				out := uint32(0)
				if peer >= 1 && peer <= 8 && source >= 1 && source <= 8 {
					out = uint32(3221225472 + 256*peer + source)
				}
				for range 2 {
					if x := New(peer, source, want); x != (api.Track{Gate: api.Gate{Want: held, Cur: -1}, Out: out, Frame: 65535}) {
						t.Fatalf("New(%d, %d, %d) = %+v", peer, source, want, x)
					}
				}
			}
		}
	}
	if x := New(2, 1, 1); x != (api.Track{Gate: api.Gate{Want: 1, Cur: -1}, Out: 0xC0000201, Frame: 65535}) {
		t.Error(x)
	}
}

// What Media makes of a Track, written out.
func TestMediaFields(t *testing.T) {
	x := api.Track{
		Gate: api.Gate{Want: 2, Cur: 1}, Course: api.Course{Live: true, In: 100, Off: 65446, Next: 11},
		Clock: api.Clock{Any: true, Off: 500, Last: 5500}, Out: 77, Frame: 9, Sent: 20, Octets: 1000,
	}
	p := packet(101, 6000, 30)
	went := func(change func(*api.Track)) api.Track {
		y := x
		change(&y)
		return y
	}
	count := func(y *api.Track) {
		y.Course.In, y.Course.Next = 101, 12
		y.Clock.Last = 6500
		y.Sent, y.Octets = 21, 1030
	}
	for i, c := range []struct {
		p     api.Packet
		d     api.Desc
		want  api.Track
		patch api.Patch
		v     int
	}{
		{p, api.Desc{Layer: 1}, went(count), api.Patch{Seq: 11, Time: 6500, Ssrc: 77, Frame: 9}, api.VSent},
		{p, api.Desc{Layer: 1, Key: true}, went(count), api.Patch{Seq: 11, Time: 6500, Ssrc: 77, Frame: 9}, api.VSent},
		{p, api.Desc{Layer: 1, Start: true}, went(func(y *api.Track) {
			count(y)
			y.Frame = 10
		}), api.Patch{Seq: 11, Time: 6500, Ssrc: 77, Frame: 10}, api.VSent},
		{p, keyFrame(1), went(func(y *api.Track) {
			count(y)
			y.Frame = 10
		}), api.Patch{Seq: 11, Time: 6500, Ssrc: 77, Frame: 10}, api.VSent},
		// What stands in d's Frame is the sender's own.
		{p, api.Desc{Layer: 1, Frame: 4000}, went(count), api.Patch{Seq: 11, Time: 6500, Ssrc: 77, Frame: 9}, api.VSent},
		{packet(104, 6000, 30), api.Desc{Layer: 1}, went(func(y *api.Track) {
			count(y)
			y.Course.In, y.Course.Off = 104, 65443
		}), api.Patch{Seq: 11, Time: 6500, Ssrc: 77, Frame: 9}, api.VSent},
		// A time that is behind the last one goes out as it came.
		{packet(101, 4000, 30), api.Desc{Layer: 1}, went(func(y *api.Track) {
			count(y)
			y.Clock.Last = 4500
		}), api.Patch{Seq: 11, Time: 4500, Ssrc: 77, Frame: 9}, api.VSent},
		// The wanted layer's key frame, and what is not quite one.
		{packet(50, 70000, 5), keyFrame(2), api.Track{
			Gate: api.Gate{Want: 2, Cur: 2}, Course: api.Course{Live: true, In: 50, Off: 65497, Next: 12},
			Clock: api.Clock{Any: true, Off: 4294905796, Last: 8500}, Out: 77, Frame: 10, Sent: 21, Octets: 1005,
		}, api.Patch{Seq: 11, Time: 8500, Ssrc: 77, Frame: 10}, api.VSwitch},
		{packet(50, 70000, 5), api.Desc{Layer: 2, Key: true}, x, api.Patch{}, api.VGated},
		{packet(50, 70000, 5), api.Desc{Layer: 2, Start: true}, x, api.Patch{}, api.VGated},
		{packet(50, 70000, 5), api.Desc{Layer: 2}, x, api.Patch{}, api.VGated},
		{packet(101, 6000, 5), keyFrame(0), x, api.Patch{}, api.VGated},
		// Those that come late, whatever else they are.
		{packet(100, 6000, 30), api.Desc{Layer: 1}, x, api.Patch{}, api.VLate},
		{packet(99, 6000, 30), keyFrame(1), x, api.Patch{}, api.VLate},
		{packet(99, 6000, 30), api.Desc{Layer: 1, Start: true}, x, api.Patch{}, api.VLate},
		{packet(99, 6000, 30), api.Desc{Layer: 0}, x, api.Patch{}, api.VGated},
	} {
		if next, patch, v := take(t, x, c.p, c.d); next != c.want || patch != c.patch || v != c.v {
			t.Errorf("%d: %+v, %+v, %d, want %+v, %+v, %d", i, next, patch, v, c.want, c.patch, c.v)
		}
	}
}

// The first packet of all, whatever its number and its time are, is 0 in all, and needs a key frame's begin.
func TestFirst(t *testing.T) {
	for want := range 3 {
		x := New(3, 4, want)
		for _, seq := range words16() {
			for _, time := range words32() {
				p := packet(seq, time, 7)
				for layer := -2; layer < 5; layer++ {
					if layer == want || layer == -1 {
						continue
					}
					kept(t, x, p, keyFrame(layer), api.VGated)
				}
				kept(t, x, p, api.Desc{Layer: want, Key: true}, api.VGated)
				kept(t, x, p, api.Desc{Layer: want, Start: true}, api.VGated)
				kept(t, x, p, api.Desc{Layer: want}, api.VGated)
				next := sent(t, x, p, keyFrame(want), api.VSwitch, api.Patch{Ssrc: 0xC0000304})
				if next != (api.Track{
					Gate: api.Gate{Want: want, Cur: want}, Course: api.Course{Live: true, In: seq, Off: -seq, Next: 1},
					Clock: api.Clock{Any: true, Off: -time}, Out: 0xC0000304, Sent: 1, Octets: 7,
				}) {
					t.Fatal(next)
				}
				// The next one, of the same frame, and one of another frame.
				next = sent(t, next, packet(seq+1, time, 8), api.Desc{Layer: want}, api.VSent, api.Patch{Seq: 1, Ssrc: 0xC0000304})
				next = sent(t, next, packet(seq+3, time+90, 0), api.Desc{Layer: want, Start: true}, api.VSent, api.Patch{Seq: 2, Time: 90, Ssrc: 0xC0000304, Frame: 1})
				if next.Sent != 3 || next.Octets != 15 || next.Course.Off != -seq-1 {
					t.Fatal(next)
				}
			}
		}
	}
}

// How far the number of a packet is from that which came last, in the same layer and with a switch.
func TestLate(t *testing.T) {
	for _, last := range words16() {
		x := sent(t, New(1, 2, 0), packet(last, 0, 1), keyFrame(0), api.VSwitch, api.Patch{Ssrc: 0xC0000102})
		for _, by := range []int{-32768, -32767, -2, -1, 0, 1, 2, 3, 16, 32766, 32767, 32768} {
			p := packet(last+uint16(by), 60, 1)
			for _, key := range both {
				d := api.Desc{Key: key}
				if by < 1 || by > 32767 {
					kept(t, x, p, d, api.VLate)
					kept(t, x, p, api.Desc{Key: key, Start: true}, api.VLate)
					continue
				}
				next := sent(t, x, p, d, api.VSent, api.Patch{Seq: 1, Time: 60, Ssrc: 0xC0000102})
				// What was missing is late from now on.
				kept(t, next, packet(last+1, 60, 1), d, api.VLate)
			}
			y := x
			y.Gate = gate.Want(y.Gate, 1)
			next := sent(t, y, p, keyFrame(1), api.VSwitch, api.Patch{Seq: 1, Time: 3000, Ssrc: 0xC0000102, Frame: 1})
			kept(t, next, p, keyFrame(1), api.VLate)
			kept(t, next, packet(p.Seq+1, 60, 1), api.Desc{}, api.VGated)
			sent(t, next, packet(p.Seq+1, 60, 1), api.Desc{Layer: 1}, api.VSent, api.Patch{Seq: 2, Time: 3000, Ssrc: 0xC0000102, Frame: 1})
		}
	}
}

// Behind a pause and a mute numbers, times and frames go on, from a key frame of whatever number and time.
func TestStop(t *testing.T) {
	for _, stop := range []func(api.Gate, bool) api.Gate{gate.Pause, gate.Mute} {
		for _, seq := range words16() {
			for _, time := range words32() {
				x := sent(t, New(8, 8, 2), packet(500, 9000, 4), keyFrame(2), api.VSwitch, api.Patch{Ssrc: 0xC0000808})
				x = sent(t, x, packet(501, 9040, 4), api.Desc{Layer: 2}, api.VSent, api.Patch{Seq: 1, Time: 40, Ssrc: 0xC0000808})
				x.Gate = stop(x.Gate, true)
				for layer := -1; layer < 4; layer++ {
					kept(t, x, packet(seq, time, 3), keyFrame(layer), api.VQuiet)
					kept(t, x, packet(502, 9080, 3), api.Desc{Layer: layer}, api.VQuiet)
				}
				x.Gate = stop(x.Gate, false)
				kept(t, x, packet(502, 9080, 3), api.Desc{Layer: 2}, api.VGated)
				kept(t, x, packet(502, 9080, 3), api.Desc{Layer: 2, Start: true}, api.VGated)
				kept(t, x, packet(502, 9080, 3), api.Desc{Layer: 2, Key: true}, api.VGated)
				x = sent(t, x, packet(seq, time, 3), keyFrame(2), api.VSwitch, api.Patch{Seq: 2, Time: 3040, Ssrc: 0xC0000808, Frame: 1})
				x = sent(t, x, packet(seq+1, time+5, 3), api.Desc{Layer: 2}, api.VSent, api.Patch{Seq: 3, Time: 3045, Ssrc: 0xC0000808, Frame: 1})
				if x.Sent != 4 || x.Octets != 14 {
					t.Fatal(x)
				}
			}
		}
	}
}

// All numbers at their greatest: the next is 0; and what goes round is none of the others' business.
func TestGreatest(t *testing.T) {
	full := api.Track{
		Course: api.Course{Live: true, In: 65535, Off: 0, Next: 65535}, Clock: api.Clock{Any: true, Off: 1, Last: 1<<32 - 1},
		Out: 1<<32 - 1, Frame: 65535, Sent: 1<<32 - 1, Octets: 1<<32 - 1,
	}
	next := sent(t, full, packet(0, 1<<32-2, 1), api.Desc{Start: true}, api.VSent, api.Patch{Seq: 65535, Time: 1<<32 - 1, Ssrc: 1<<32 - 1})
	if next != (api.Track{
		Course: api.Course{Live: true, Off: 65535}, Clock: api.Clock{Any: true, Off: 1, Last: 1<<32 - 1}, Out: 1<<32 - 1,
	}) {
		t.Fatal(next)
	}
	next = sent(t, full, packet(0, 1<<32-1, 0), api.Desc{}, api.VSent, api.Patch{Seq: 65535, Ssrc: 1<<32 - 1, Frame: 65535})
	if next.Frame != 65535 || next.Sent != 0 || next.Octets != 1<<32-1 || next.Clock.Last != 0 {
		t.Fatal(next)
	}
	next = sent(t, full, packet(0, 0, 12), api.Desc{}, api.VSent, api.Patch{Seq: 65535, Time: 1, Ssrc: 1<<32 - 1, Frame: 65535})
	if next.Octets != 11 {
		t.Fatal(next)
	}
	full.Gate.Want = 1
	next = sent(t, full, packet(7, 100, 2), keyFrame(1), api.VSwitch, api.Patch{Seq: 65535, Time: 2999, Ssrc: 1<<32 - 1})
	if next != (api.Track{
		Gate: api.Gate{Want: 1, Cur: 1}, Course: api.Course{Live: true, In: 7, Off: 65528}, Clock: api.Clock{Any: true, Off: 2899, Last: 2999},
		Out: 1<<32 - 1, Octets: 1,
	}) {
		t.Fatal(next)
	}
}

// A payload counts by its bytes, not by those beside it.
func TestPayloads(t *testing.T) {
	x := sent(t, New(1, 1, 0), packet(9, 9, 5), keyFrame(0), api.VSwitch, api.Patch{Ssrc: 0xC0000101})
	for _, c := range []struct {
		payload []byte
		want    uint32
	}{
		{nil, 5}, {[]byte{}, 5}, {make([]byte, 0, 90), 5}, {make([]byte, 1, 90), 6}, {make([]byte, 4), 9},
		{make([]byte, 512), 517}, {make([]byte, 65536), 65541}, {make([]byte, 1<<21+3), 1<<21 + 8},
	} {
		p := api.Packet{
			Seq: 10, Time: 9, Payload: c.payload,
			Csrc: make([]uint32, 3), HasExt: true, Ext: make([]byte, 8), Pad: 30, Ssrc: 4, Marker: true, Type: 3,
		}
		for _, start := range both {
			next, patch, v := take(t, x, p, api.Desc{Start: start})
			if v != api.VSent || next.Octets != c.want || next.Sent != 2 || patch.Seq != 1 {
				t.Errorf("%d bytes: %+v, %+v, %d", len(c.payload), next, patch, v)
			}
		}
	}
	// A packet that is not sent is not counted.
	kept(t, x, packet(9, 9, 50), api.Desc{}, api.VLate)
	kept(t, x, packet(10, 9, 50), api.Desc{Layer: 1}, api.VGated)
}

// A packet of layer -1, where no layer goes on, is one of the layer Cur: the words hold as they stand.
func TestLayerBelow(t *testing.T) {
	x := New(6, 7, 1)
	for _, key := range both {
		next := sent(t, x, packet(40, 50, 3), api.Desc{Layer: -1, Key: key, Start: true}, api.VSent, api.Patch{Time: 50, Ssrc: 0xC0000607})
		if next != (api.Track{
			Gate: api.Gate{Want: 1, Cur: -1}, Course: api.Course{Live: true, In: 40, Off: 65496, Next: 1},
			Clock: api.Clock{Any: true, Last: 50}, Out: 0xC0000607, Sent: 1, Octets: 3,
		}) {
			t.Fatal(next)
		}
		kept(t, next, packet(40, 50, 3), api.Desc{Layer: -1}, api.VLate)
	}
}

// Media takes a Track with whatever in its fields, and a packet likewise.
func TestMediaEveryEdge(t *testing.T) {
	d := dice(1)
	var seen [6]int
	for range 300000 {
		x, p := anyTrack(&d), anyPacket(&d)
		what := api.Desc{Layer: pick(&d, layers()), Key: d.throw(2) == 0, Start: d.throw(2) == 0, Frame: pick(&d, words16())}
		switch d.throw(4) {
		case 0:
			what.Layer = x.Gate.Cur
		case 1:
			what.Layer = x.Gate.Want
		}
		_, _, v := take(t, x, p, what)
		seen[v]++
	}
	for v := api.VSent; v <= api.VLate; v++ {
		if seen[v] < 5000 {
			t.Error("too tame", seen)
		}
	}
}

// Two fields each in all pairs of their edges, the verdict being the same.
func TestMediaEveryPair(t *testing.T) {
	for _, a := range words16() {
		for _, b := range words16() {
			x := api.Track{Course: api.Course{Live: true, In: a, Next: b}, Frame: b}
			for _, start := range both {
				for _, by := range words16() {
					take(t, x, packet(a+by, 5, 1), api.Desc{Start: start})
				}
			}
		}
	}
	for _, a := range words32() {
		for _, b := range words32() {
			for _, some := range both {
				x := api.Track{Gate: api.Gate{Want: 1}, Clock: api.Clock{Any: some, Off: a, Last: b}, Sent: a, Octets: b}
				for _, time := range words32() {
					take(t, x, packet(5, time, 2), api.Desc{Start: some})
					take(t, x, packet(5, time, 2), keyFrame(1))
				}
			}
		}
	}
}

// What Report makes of a Track, written out.
func TestReportFields(t *testing.T) {
	x := api.Track{
		Gate: api.Gate{Want: 1, Cur: 1}, Course: api.Course{Live: true, In: 9, Off: 8, Next: 7}, Clock: api.Clock{Any: true, Off: 500, Last: 70},
		Out: 77, Frame: 6, Sent: 20, Octets: 1000,
	}
	i := api.Item{
		Kind: api.ISender, Ssrc: 4, Ntp: 1<<64 - 2, Time: 6000, Packets: 1, Octets: 2, Media: 3,
		Blocks: make([]api.Block, 2), Gone: make([]uint32, 3), Pairs: make([]api.Pair, 4),
	}
	want := api.Item{Kind: api.ISender, Ssrc: 77, Ntp: 1<<64 - 2, Time: 6500, Packets: 20, Octets: 1000}
	if out, v := tell(t, x, i, 1); v != api.VSent || !same(out, want) {
		t.Error(out, v)
	}
	// Whether any time went out makes nothing.
	y := x
	y.Clock.Any = false
	if out, v := tell(t, y, i, 1); v != api.VSent || !same(out, want) {
		t.Error(out, v)
	}
	y.Clock.Off = 1<<32 - 6000
	if out, v := tell(t, y, i, 1); v != api.VSent || out.Time != 0 {
		t.Error(out, v)
	}
	y = api.Track{Gate: y.Gate, Sent: 1<<32 - 1, Octets: 1<<32 - 1, Out: 1<<32 - 1}
	if out, v := tell(t, y, api.Item{Kind: api.ISender, Time: 1<<32 - 1}, 1); v != api.VSent || !same(out, api.Item{
		Kind: api.ISender, Ssrc: 1<<32 - 1, Time: 1<<32 - 1, Packets: 1<<32 - 1, Octets: 1<<32 - 1,
	}) {
		t.Error(out, v)
	}
}

// unsent holds that a report is not sent, for the reason v.
func unsent(t *testing.T, x api.Track, i api.Item, layer, v int) {
	t.Helper()
	if out, verdict := tell(t, x, i, layer); verdict != v || !reflect.DeepEqual(out, api.Item{}) {
		t.Fatalf("Report(%+v, %+v, %d) = %+v, %d, want %d", x, i, layer, out, verdict, v)
	}
}

// Each kind of item, at each layer, with each of the stops.
func TestReportVerdicts(t *testing.T) {
	for _, cur := range layers() {
		for _, want := range layers() {
			for _, layer := range layers() {
				for _, kind := range kinds() {
					i := api.Item{Kind: kind, Ssrc: 4, Ntp: 5, Time: 6, Packets: 7, Octets: 8, Media: 9, Blocks: make([]api.Block, 1), Gone: make([]uint32, 1), Pairs: make([]api.Pair, 1)}
					x := api.Track{Gate: api.Gate{Want: want, Cur: cur}, Clock: api.Clock{Any: true, Off: 10}, Out: 11, Sent: 12, Octets: 13}
					if layer == cur && kind == 200 {
						if out, v := tell(t, x, i, layer); v != api.VSent || !same(out, api.Item{Kind: 200, Ssrc: 11, Ntp: 5, Time: 16, Packets: 12, Octets: 13}) {
							t.Fatal(x, i, layer, out, v)
						}
					} else {
						unsent(t, x, i, layer, api.VGated)
					}
					for stops := 1; stops < 4; stops++ {
						x.Gate.Paused, x.Gate.Muted = stops&1 != 0, stops&2 != 0
						unsent(t, x, i, layer, api.VQuiet)
					}
				}
			}
		}
	}
}

// A report ahead of the first packet, behind it, ahead of a switch and behind it, and behind a stop.
func TestReportOnTheWay(t *testing.T) {
	i := api.Item{Kind: api.ISender, Ssrc: 4, Ntp: 5, Time: 1000, Packets: 600, Octets: 700}
	sends := func(x api.Track, layer int, time, packets, octets uint32) {
		t.Helper()
		if out, v := tell(t, x, i, layer); v != api.VSent || !same(out, api.Item{
			Kind: api.ISender, Ssrc: 0xC0000201, Ntp: 5, Time: time, Packets: packets, Octets: octets,
		}) {
			t.Fatal(x, layer, out, v)
		}
	}
	x := New(2, 1, 0)
	for layer := range 3 {
		unsent(t, x, i, layer, api.VGated)
	}
	// Of a layer of -1 while Cur is -1: the words hold as they stand.
	sends(x, -1, 1000, 0, 0)
	x, _, _ = take(t, x, packet(7, 900, 11), keyFrame(0))
	unsent(t, x, i, -1, api.VGated)
	sends(x, 0, 100, 1, 11)
	x.Gate = gate.Want(x.Gate, 2)
	sends(x, 0, 100, 1, 11)
	unsent(t, x, i, 2, api.VGated)
	x, _, _ = take(t, x, packet(7, 400, 22), keyFrame(2))
	unsent(t, x, i, 0, api.VGated)
	sends(x, 2, 3600, 2, 33)
	// What is not sent is not counted.
	x, _, _ = take(t, x, packet(7, 400, 22), api.Desc{Layer: 2})
	x, _, _ = take(t, x, packet(8, 400, 22), keyFrame(0))
	sends(x, 2, 3600, 2, 33)
	for _, stop := range []func(api.Gate, bool) api.Gate{gate.Pause, gate.Mute} {
		y := x
		y.Gate = stop(y.Gate, true)
		unsent(t, y, i, 2, api.VQuiet)
		unsent(t, y, i, 0, api.VQuiet)
		unsent(t, y, api.Item{Kind: api.IReceiver}, 2, api.VQuiet)
		y.Gate = stop(y.Gate, false)
		unsent(t, y, i, 2, api.VGated)
		y, _, _ = take(t, y, packet(0, 1000, 1), keyFrame(2))
		sends(y, 2, 6000, 3, 34)
	}
}

func TestReportEveryEdge(t *testing.T) {
	d := dice(2)
	var seen [6]int
	for range 200000 {
		x, i, layer := anyTrack(&d), anyItem(&d), pick(&d, layers())
		if d.throw(2) == 0 {
			i.Kind = api.ISender
		}
		if d.throw(2) == 0 {
			layer = x.Gate.Cur
		}
		_, v := tell(t, x, i, layer)
		seen[v]++
	}
	if seen[api.VSent] < 20000 || seen[api.VGated] < 20000 || seen[api.VQuiet] < 20000 {
		t.Error("too tame", seen)
	}
}

// follow keeps from outside what a subscriber has been sent: its numbers have no gap, and so on.
type follow struct {
	open            int // the layer whose key frame has begun, and that nothing has cut since
	packets, octets uint32
	frames          uint16
	time            uint32
}

func (f *follow) see(t *testing.T, x api.Track, p api.Packet, d api.Desc, patch api.Patch, v int) {
	t.Helper()
	if v == api.VSwitch {
		if !d.Key || !d.Start || d.Layer == f.open || f.packets > 0 && patch.Time != f.time+3000 || f.packets == 0 && patch.Time != 0 {
			t.Fatal("switch", d, f, patch)
		}
		f.open = d.Layer
	}
	if v == api.VSent || v == api.VSwitch {
		if d.Start {
			f.frames++
		}
		if d.Layer != f.open || patch.Seq != uint16(f.packets) || patch.Frame != f.frames || patch.Ssrc != x.Out {
			t.Fatal("sent", d, f, patch)
		}
		f.packets, f.octets, f.time = f.packets+1, f.octets+uint32(len(p.Payload)), patch.Time
	}
}

// Long rows of packets of three layers, each with numbers and times of its own, some lost, late, twice, with Want, Pause and
// Mute between, and a report behind each.
func TestRows(t *testing.T) {
	var seen [6]int
	for seed := range 40 {
		d := dice(seed)
		x := New(1+d.throw(8), 1+d.throw(8), d.throw(5)-1)
		f := follow{open: -1, frames: 65535}
		seqs := [3]uint16{uint16(d.throw(round16)), uint16(d.throw(round16)), 65530}
		times := [3]uint32{d.word(), d.word(), 1<<32 - 500}
		for range 3000 {
			switch d.throw(60) {
			case 0:
				x.Gate = gate.Want(x.Gate, d.throw(7)-2)
			case 1, 2:
				stop := []func(api.Gate, bool) api.Gate{gate.Pause, gate.Mute}[d.throw(2)]
				on := d.throw(4) == 0
				x.Gate = stop(x.Gate, on)
				if on {
					f.open = -1
				}
			default:
				layer := d.throw(3)
				seqs[layer] += uint16(1 + d.throw(9)/8)
				seq := seqs[layer]
				if d.throw(8) == 0 {
					seq -= uint16(d.throw(4))
				}
				times[layer] += uint32(d.throw(200))
				what := api.Desc{Layer: layer, Key: d.throw(3) == 0, Start: d.throw(2) == 0, Frame: uint16(d.throw(round16))}
				p := packet(seq, times[layer], d.throw(40))
				next, patch, v := take(t, x, p, what)
				f.see(t, x, p, what, patch, v)
				seen[v]++
				x = next
				report(t, x, f, p.Time, d.throw(4)-1)
			}
		}
	}
	for v := api.VSent; v <= api.VLate; v++ {
		if seen[v] < 500 {
			t.Error("rows too tame", seen)
		}
	}
}

// report holds that a report tells what the subscriber was sent, as it was seen from outside.
func report(t *testing.T, x api.Track, f follow, time uint32, layer int) {
	t.Helper()
	out, v := tell(t, x, api.Item{Kind: api.ISender, Ssrc: 3, Ntp: 4, Time: time, Packets: 5, Octets: 6}, layer)
	if v == api.VSent && (layer != f.open || out.Packets != f.packets || out.Octets != f.octets || out.Ssrc != x.Out || out.Ntp != 4) {
		t.Fatal("report", layer, f, out)
	}
}

// Two Tracks have nothing in common, and from one Track more than one may go on.
func TestTwoTracks(t *testing.T) {
	d := dice(9)
	all := [3]api.Track{New(1, 1, 0), New(1, 1, 0), New(2, 1, 2)}
	for k := range 3000 {
		i, was := d.throw(len(all)), all
		what := api.Desc{Layer: d.throw(3), Key: d.throw(2) == 0, Start: d.throw(2) == 0}
		all[i], _, _ = take(t, all[i], packet(uint16(k), uint32(k), k%9), what)
		tell(t, all[i], api.Item{Kind: api.ISender, Time: uint32(k)}, what.Layer)
		for j := range all {
			if j != i && all[j] != was[j] {
				t.Fatal(k, i, j, all)
			}
		}
	}
	x := sent(t, New(4, 4, 1), packet(1, 1, 1), keyFrame(1), api.VSwitch, api.Patch{Ssrc: 0xC0000404})
	sent(t, x, packet(2, 3, 1), api.Desc{Layer: 1}, api.VSent, api.Patch{Seq: 1, Time: 2, Ssrc: 0xC0000404})
	sent(t, x, packet(9, 9, 1), api.Desc{Layer: 1, Start: true}, api.VSent, api.Patch{Seq: 1, Time: 8, Ssrc: 0xC0000404, Frame: 1})
}

func ExampleMedia() {
	t := New(2, 1, 0)
	for _, x := range []struct {
		seq  uint16
		time uint32
		d    api.Desc
	}{
		{100, 1000, api.Desc{}},
		{101, 1000, api.Desc{Key: true, Start: true}},
		{104, 1090, api.Desc{Start: true}},
		{103, 1090, api.Desc{}},
	} {
		var p api.Patch
		var v int
		t, p, v = Media(t, api.Packet{Seq: x.seq, Time: x.time, Payload: []byte("12345")}, x.d)
		fmt.Println(x.seq, v, p.Seq, p.Time, p.Frame)
	}
	i, v := Report(t, api.Item{Kind: api.ISender, Time: 1100}, 0)
	fmt.Println(v, i.Time, i.Packets, i.Octets)
	peer, source, ok := Whose(i.Ssrc)
	fmt.Println(peer, source, ok)
	// Output:
	// 100 3 0 0 0
	// 101 2 0 0 0
	// 104 1 1 90 1
	// 103 5 0 0 0
	// 1 100 2 10
	// 2 1 true
}
