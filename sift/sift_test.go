package sift

import (
	"fmt"
	"math"
	"reflect"
	"slices"
	"testing"

	"sluicegate/api"
	"sluicegate/desc"
	"sluicegate/rtcp"
	"sluicegate/rtp"
)

// The bytes are written out, so that what is read and written is held against the chapters' words, not against the layers below.

// head is a packet's first twelve bytes, and what stands behind these.
func head(first, second byte, rest ...byte) []byte {
	return append([]byte{first, second, 1, 2, 3, 4, 5, 6, 7, 8, 9, 10}, rest...)
}

// shortBytes is a packet with a descriptor and a byte behind it.
func shortBytes() []byte {
	return head(128, 96, 193, 90, 11, 12, 13)
}

func shortMedia() Media {
	return Media{
		Packet: api.Packet{Type: 96, Seq: 0x0102, Time: 0x03040506, Ssrc: 0x0708090a, Payload: []byte{193, 90, 11, 12, 13}},
		Desc:   api.Desc{Layer: 1, Key: true, Start: true, Frame: 0x0b0c},
	}
}

// fullBytes is a packet that has all there is.
func fullBytes() []byte {
	return head(178, 224, 14, 15, 16, 17, 18, 19, 20, 21, 0xbe, 0xde, 0, 1, 22, 23, 24, 25, 66, 90, 26, 27, 28, 29, 0, 0, 3)
}

func fullMedia() Media {
	return Media{
		Packet: api.Packet{
			Marker: true, Type: 96, Seq: 0x0102, Time: 0x03040506, Ssrc: 0x0708090a, Csrc: []uint32{0x0e0f1011, 0x12131415},
			HasExt: true, Profile: 0xbede, Ext: []byte{22, 23, 24, 25}, Payload: []byte{66, 90, 26, 27, 28, 29}, Pad: 3,
		},
		Desc: api.Desc{Layer: 2, Start: true, Frame: 0x1a1b},
	}
}

// bareBytes is a packet of a descriptor alone.
func bareBytes() []byte {
	return head(128, 0, 0, 90, 0, 0)
}

func bareMedia() Media {
	return Media{Packet: api.Packet{Seq: 0x0102, Time: 0x03040506, Ssrc: 0x0708090a, Payload: []byte{0, 90, 0, 0}}}
}

// allItems are one of each kind, with lists of more than one.
func allItems() []api.Item {
	return []api.Item{
		{
			Kind: 200, Ssrc: 0x01020304, Ntp: 0x05060708090a0b0c, Time: 0x0d0e0f10, Packets: 0x11121314, Octets: 0x15161718,
			Blocks: []api.Block{{Ssrc: 0x191a1b1c, Lost: 29, Total: 0x1e1f20, High: 0x21222324, Jitter: 0x25262728, Last: 0x292a2b2c, Delay: 0x2d2e2f30}, {Lost: 1}},
		},
		{Kind: 201, Ssrc: 9, Blocks: []api.Block{{Delay: 8}}},
		{Kind: 203, Gone: []uint32{7, 0x01020304}},
		{Kind: 205, Ssrc: 1, Media: 258, Pairs: []api.Pair{{Pid: 9, Blp: 5}, {Pid: 0x0a0b, Blp: 0x0c0d}}},
		{Kind: 206, Ssrc: 2, Media: 3},
	}
}

func allBytes() []byte {
	return slices.Concat(
		[]byte{130, 200, 0, 18, 1, 2, 3, 4, 5, 6, 7, 8, 9, 10, 11, 12, 13, 14, 15, 16, 17, 18, 19, 20, 21, 22, 23, 24},
		[]byte{25, 26, 27, 28, 29, 30, 31, 32, 33, 34, 35, 36, 37, 38, 39, 40, 41, 42, 43, 44, 45, 46, 47, 48},
		[]byte{0, 0, 0, 0, 1, 0, 0, 0, 0, 0, 0, 0, 0, 0, 0, 0, 0, 0, 0, 0, 0, 0, 0, 0},
		[]byte{129, 201, 0, 7, 0, 0, 0, 9, 0, 0, 0, 0, 0, 0, 0, 0, 0, 0, 0, 0, 0, 0, 0, 0, 0, 0, 0, 0, 0, 0, 0, 8},
		[]byte{130, 203, 0, 2, 0, 0, 0, 7, 1, 2, 3, 4},
		[]byte{129, 205, 0, 4, 0, 0, 0, 1, 0, 0, 1, 2, 0, 9, 0, 5, 10, 11, 12, 13},
		[]byte{129, 206, 0, 2, 0, 0, 0, 2, 0, 0, 0, 3},
	)
}

// byeBytes is a farewell of one.
func byeBytes() []byte {
	return []byte{129, 203, 0, 1, 0, 0, 0, 7}
}

func bye() Feedback {
	return Feedback{Items: []api.Item{{Kind: 203, Gone: []uint32{7}}}}
}

// longMedia has so many bytes behind its descriptor.
func longMedia(n int) Media {
	m := bareMedia()
	m.Packet.Payload = append(m.Packet.Payload, slices.Repeat([]byte{91}, n)...)
	return m
}

// longItems make 512 bytes.
func longItems() []api.Item {
	return []api.Item{
		{Kind: 201, Ssrc: 1, Blocks: make([]api.Block, 15)},
		{Kind: 200, Ssrc: 2, Blocks: make([]api.Block, 4)},
		{Kind: 203, Gone: []uint32{3, 4, 5, 6}},
	}
}

func longBytes() []byte {
	return slices.Concat(
		[]byte{143, 201, 0, 91, 0, 0, 0, 1}, make([]byte, 15*24),
		[]byte{132, 200, 0, 30, 0, 0, 0, 2}, make([]byte, 20+4*24),
		[]byte{132, 203, 0, 4, 0, 0, 0, 3, 0, 0, 0, 4, 0, 0, 0, 5, 0, 0, 0, 6},
	)
}

type datagram struct {
	b []byte
	e Event
}

// rightOnes are bytes, and what these are.
func rightOnes() []datagram {
	edge := func(second byte, marker bool, kind int) datagram {
		m := bareMedia()
		m.Packet.Marker, m.Packet.Type = marker, kind
		return datagram{head(128, second, 0, 90, 0, 0), m}
	}
	return []datagram{
		{shortBytes(), shortMedia()},
		{fullBytes(), fullMedia()},
		{bareBytes(), bareMedia()},
		edge(191, true, 63),
		edge(224, true, 96),
		edge(64, false, 64),
		edge(95, false, 95),
		{head(128, 0, append([]byte{0, 90, 0, 0}, slices.Repeat([]byte{91}, 496)...)...), longMedia(496)},
		{byeBytes(), bye()},
		{[]byte{128, 201, 0, 1, 0, 0, 0, 5}, Feedback{Items: []api.Item{{Kind: 201, Ssrc: 5}}}},
		{slices.Repeat(byeBytes(), 8), Feedback{Items: slices.Repeat(bye().Items, 8)}},
		{allBytes(), Feedback{Items: allItems()}},
		{longBytes(), Feedback{Items: longItems()}},
	}
}

// none makes a list without elements nil.
func none[T any](l []T) []T {
	if len(l) == 0 {
		return nil
	}
	return l
}

// even is a packet of which an empty list is a nil one.
func even(p api.Packet) api.Packet {
	p.Csrc, p.Ext, p.Payload = none(p.Csrc), none(p.Ext), none(p.Payload)
	return p
}

func evenItems(l []api.Item) []api.Item {
	l = none(slices.Clone(l))
	for k, i := range l {
		l[k].Blocks, l[k].Gone, l[k].Pairs = none(i.Blocks), none(i.Gone), none(i.Pairs)
	}
	return l
}

func samePacket(p, q api.Packet) bool {
	return reflect.DeepEqual(even(p), even(q))
}

func sameItems(l, m []api.Item) bool {
	return reflect.DeepEqual(evenItems(l), evenItems(m))
}

// same holds two events against each other, their types, too.
func same(e, f Event) bool {
	switch e := e.(type) {
	case Media:
		g, ok := f.(Media)
		return ok && e.Desc == g.Desc && samePacket(e.Packet, g.Packet)
	case Feedback:
		g, ok := f.(Feedback)
		return ok && sameItems(e.Items, g.Items)
	}
	return false
}

// refused: there is no event beside an error.
func refused(t *testing.T, b []byte, want api.Errno) {
	t.Helper()
	if e, err := Of(b); err != want || e != nil {
		t.Errorf("Of(%v) = %+v, %d, want %d", b, e, err, want)
	}
}

// notPut: there are no bytes beside an error.
func notPut(t *testing.T, e Event, want api.Errno) {
	t.Helper()
	if b, err := Bytes(e); err != want || b != nil {
		t.Errorf("Bytes(%+v) = %v, %d, want %d", e, b, err, want)
	}
}

func TestKind(t *testing.T) {
	for _, m := range []Media{{}, shortMedia(), fullMedia(), {Desc: api.Desc{Layer: 2}}, {Packet: api.Packet{Type: 200}}} {
		if m.Kind() != 1 || Event(m).Kind() != 1 || (&m).Kind() != 1 {
			t.Errorf("%+v", m)
		}
	}
	for _, f := range []Feedback{{}, bye(), {Items: allItems()}, {Items: make([]api.Item, 9)}, {Items: []api.Item{{Kind: 1}}}} {
		if f.Kind() != 2 || Event(f).Kind() != 2 || (&f).Kind() != 2 {
			t.Errorf("%+v", f)
		}
	}
}

func TestOf(t *testing.T) {
	for _, c := range rightOnes() {
		e, err := Of(c.b)
		if err != api.OK || !same(e, c.e) {
			t.Errorf("Of(%v) = %+v, %d, want %+v", c.b, e, err, c.e)
			continue
		}
		if e.Kind() != c.e.Kind() {
			t.Error("Kind", e.Kind())
		}
	}
}

func TestBytes(t *testing.T) {
	for _, c := range rightOnes() {
		if b, err := Bytes(c.e); err != api.OK || !slices.Equal(b, c.b) {
			t.Errorf("Bytes(%+v) = %v, %d, want %v", c.e, b, err, c.b)
		}
	}
}

func TestReadAndWrittenBack(t *testing.T) {
	for _, c := range rightOnes() {
		e, _ := Of(c.b)
		if b, err := Bytes(e); err != api.OK || !slices.Equal(b, c.b) {
			t.Errorf("Bytes(Of(%v)) = %v, %d", c.b, b, err)
		}
	}
}

func TestFlat(t *testing.T) {
	for _, c := range rightOnes() {
		read, _ := Of(c.b)
		for _, e := range []Event{c.e, read} {
			p, d, l := Flat(e)
			if m, ok := c.e.(Media); ok && (!samePacket(p, m.Packet) || d != m.Desc || l != nil) {
				t.Errorf("Flat(%+v) = %+v, %+v, %+v", e, p, d, l)
			}
			if f, ok := c.e.(Feedback); ok && (!reflect.DeepEqual(p, api.Packet{}) || d != api.Desc{} || !sameItems(l, f.Items)) {
				t.Errorf("Flat(%+v) = %+v, %+v, %+v", e, p, d, l)
			}
		}
	}
}

// wrongMedia can't be written: their descriptors are wrong, or else their packets.
func wrongMedia() []Media {
	list := []Media{{}, {Packet: api.Packet{Type: 96}}, {Desc: api.Desc{Layer: 1}}}
	// No descriptor, whatever is told of it.
	for _, payload := range [][]byte{{}, {1}, {1, 90}, {1, 90, 0}, {0, 0, 0, 0}, {3, 90, 0, 0}, {5, 90, 0, 0}, {9, 90, 0, 0}, {17, 90, 0, 0}, {33, 90, 0, 0}, {1, 89, 0, 0}, {1, 91, 0, 0}, {90, 1, 0, 0}} {
		for _, d := range []api.Desc{{}, {Layer: 1}, {Layer: 3}} {
			list = append(list, Media{Packet: api.Packet{Payload: payload}, Desc: d})
		}
	}
	list = append(list, otherDescs()...)
	for _, p := range wrongPackets() {
		list = append(list, Media{Packet: p, Desc: api.Desc{Layer: 2}})
	}
	return list
}

// otherDescs are told to begin with another descriptor than they do.
func otherDescs() []Media {
	var list []Media
	for _, m := range []Media{shortMedia(), fullMedia(), bareMedia()} {
		key, start := m, m
		key.Desc.Key = !key.Desc.Key
		start.Desc.Start = !start.Desc.Start
		list = append(list, key, start)
		for _, n := range []int{1, 2, 3, -1, -2, -3, 4, 64, 128, 256, 1 << 32, math.MinInt, math.MaxInt} {
			layer, frame := m, m
			layer.Desc.Layer += n
			frame.Desc.Frame ^= uint16(1<<(uint(n)%16)) | 1
			list = append(list, layer, frame)
		}
	}
	return list
}

// wrongPackets can't be written, whatever they begin with; their descriptor is right.
func wrongPackets() []api.Packet {
	list := []api.Packet{
		{Type: -1}, {Type: 128}, {Type: math.MaxInt}, {Type: math.MinInt}, {Type: 64, Marker: true}, {Type: 72, Marker: true}, {Type: 95, Marker: true},
		{Csrc: make([]uint32, 16)}, {Ext: make([]byte, 4)}, {Profile: 1}, {HasExt: true, Ext: make([]byte, 5)},
		{Pad: -1}, {Pad: 256}, {Pad: math.MaxInt}, {Pad: math.MinInt},
	}
	for k := range list {
		list[k].Payload = []byte{2, 90, 0, 0, 7}
	}
	return list
}

// wrongItems are lists that can't be written.
func wrongItems() [][]api.Item {
	return [][]api.Item{
		nil, {}, {{}}, {{Kind: 7}}, {{Kind: 202, Ssrc: 1}}, {{Kind: 203}}, {{Kind: 205}}, {{Kind: 203, Gone: make([]uint32, 16)}}, {{Kind: 205, Pairs: make([]api.Pair, 17)}},
		{{Kind: 200, Blocks: make([]api.Block, 16)}}, {{Kind: 201, Ntp: 1}}, {{Kind: 206, Pairs: make([]api.Pair, 1)}}, {{Kind: -203, Gone: []uint32{1}}}, {{Kind: 201, Blocks: []api.Block{{Total: 1 << 24}}}},
		slices.Repeat(bye().Items, 9), slices.Repeat(bye().Items, 1000), append(allItems(), api.Item{}), append([]api.Item{{Kind: math.MaxInt}}, allItems()...),
	}
}

func TestBytesWrong(t *testing.T) {
	for _, m := range wrongMedia() {
		notPut(t, m, api.ErrForm)
	}
	for _, l := range wrongItems() {
		notPut(t, Feedback{Items: l}, api.ErrForm)
	}
	// What may not be is told ahead of what is too long.
	long := append(otherDescs(), Media{})
	for _, p := range wrongPackets() {
		long = append(long, Media{Packet: p, Desc: api.Desc{Layer: 2}})
	}
	for _, m := range long {
		m.Packet.Payload = append(slices.Clone(m.Packet.Payload), make([]byte, 600)...)
		notPut(t, m, api.ErrForm)
	}
}

func TestBytesTooMany(t *testing.T) {
	for _, n := range []int{497, 498, 1 << 16, 1 << 20} {
		notPut(t, longMedia(n), api.ErrRange)
		m := longMedia(n)
		m.Desc.Frame = 1
		notPut(t, m, api.ErrForm)
		m = longMedia(n)
		m.Packet.Type = 128
		notPut(t, m, api.ErrForm)
	}
	padded := longMedia(242)
	padded.Packet.Pad = 255
	notPut(t, padded, api.ErrRange)
	notPut(t, Feedback{Items: append(longItems(), api.Item{Kind: 201})}, api.ErrRange)
	notPut(t, Feedback{Items: append(longItems(), api.Item{Kind: 202})}, api.ErrForm)
	notPut(t, Feedback{Items: slices.Repeat(longItems()[:1], 8)}, api.ErrRange)
	notPut(t, Feedback{Items: slices.Repeat(longItems()[:1], 9)}, api.ErrForm)
}

// What was made by hand is told as it is, whether or not it can be written.
func TestFlatOfAnything(t *testing.T) {
	for _, m := range append(wrongMedia(), longMedia(1<<16)) {
		if p, d, l := Flat(m); !samePacket(p, m.Packet) || d != m.Desc || l != nil {
			t.Errorf("Flat(%+v) = %+v, %+v, %+v", m, p, d, l)
		}
	}
	strange := []api.Item{{Kind: 7, Ssrc: 1, Ntp: 2, Time: 3, Packets: 4, Octets: 5, Blocks: make([]api.Block, 99), Gone: make([]uint32, 99), Media: 6, Pairs: make([]api.Pair, 99)}, {}}
	for _, l := range append(wrongItems(), strange, slices.Repeat(strange, 1000)) {
		if p, d, m := Flat(Feedback{Items: l}); !reflect.DeepEqual(p, api.Packet{}) || d != (api.Desc{}) || !sameItems(m, l) {
			t.Errorf("Flat(%+v) = %+v, %+v, %+v", l, p, d, m)
		}
	}
}

// Types that are neither, though they look like it.
type (
	saysMedia    struct{ Media }
	saysFeedback struct{ Feedback }
	twin         Media
	number       int
	row          []byte
	table        map[string]int
	deed         func()
	holds        struct{ Event }
	breaks       struct{}
)

func (twin) Kind() int     { return 1 }
func (n number) Kind() int { return int(n) }
func (row) Kind() int      { return 2 }
func (table) Kind() int    { return 1 }
func (deed) Kind() int     { return 2 }
func (breaks) Kind() int   { panic("asked") }

func otherTypes() []Event {
	short, f := shortMedia(), bye()
	var gone *Feedback
	return []Event{
		nil, &short, &f, (*Media)(nil), gone, saysMedia{short}, saysFeedback{f}, &saysMedia{short}, twin(short),
		number(1), number(2), row(shortBytes()), row(nil), table{"Kind": 1}, table(nil), deed(func() {}), deed(nil), holds{short}, holds{f}, holds{}, breaks{}, &breaks{},
	}
}

func TestOtherTypes(t *testing.T) {
	for k, e := range otherTypes() {
		if p, d, l := Flat(e); !reflect.DeepEqual(p, api.Packet{}) || d != (api.Desc{}) || l != nil {
			t.Errorf("%d: Flat = %+v, %+v, %+v", k, p, d, l)
		}
		if b, err := Bytes(e); err != api.ErrKind || b != nil {
			t.Errorf("%d: Bytes = %v, %d", k, b, err)
		}
	}
}

func TestOfFewerThanTwo(t *testing.T) {
	refused(t, nil, api.ErrShort)
	refused(t, []byte{}, api.ErrShort)
	for first := range 256 {
		for _, whole := range [][]byte{shortBytes(), byeBytes(), allBytes()} {
			// The spare room holds the rest, and must not be read.
			whole[0] = byte(first)
			refused(t, whole[:0], api.ErrShort)
			refused(t, whole[:1], api.ErrShort)
		}
	}
}

// Two bytes are fewer than a packet has, and than an item has.
func TestOfEveryTwo(t *testing.T) {
	for first := range 256 {
		for second := range 256 {
			refused(t, []byte{byte(first), byte(second)}, api.ErrShort)
		}
	}
}

func TestOfTooMany(t *testing.T) {
	for _, n := range []int{513, 514, 1 << 16, 1 << 20} {
		for _, start := range [][]byte{nil, {0, 0}, {128, 0}, {64, 223}, {128, 192}, {255, 255}, shortBytes(), byeBytes(), allBytes(), longBytes()} {
			refused(t, append(slices.Clone(start), make([]byte, n-len(start))...), api.ErrRange)
		}
	}
	many := head(128, 0, append([]byte{0, 90, 0, 0}, make([]byte, 497)...)...)
	refused(t, many, api.ErrRange)
	if e, err := Of(many[:512]); err != api.OK || e.Kind() != 1 {
		t.Error("512:", e, err)
	}
	refused(t, append(longBytes(), 128), api.ErrRange)
	if e, err := Of(longBytes()); err != api.OK || e.Kind() != 2 {
		t.Error("512 of feedback:", e, err)
	}
	refused(t, append(longBytes()[:511:511], 128, 201), api.ErrRange)
	refused(t, longBytes()[:511], api.ErrShort)
}

// wantSecond is what of a packet's bytes is told, whatever its second byte is, and what else they have.
func wantSecond(second int) (kind int, err api.Errno) {
	switch {
	case second < 192 || second > 223:
		return 1, api.OK
	case second == 200 || second == 201 || second == 203:
		// The packet's Seq is no number of words that would be right.
		return 0, api.ErrForm
	}
	// 205 and 206 are another kind without a 1 in the first byte's lower bits.
	return 0, api.ErrKind
}

func TestOfEverySecondByte(t *testing.T) {
	for second := range 256 {
		b := head(128, byte(second), 193, 90, 11, 12, 13)
		kind, want := wantSecond(second)
		if want != api.OK {
			refused(t, b, want)
			continue
		}
		m := shortMedia()
		m.Packet.Marker, m.Packet.Type = second >= 128, second%128
		if e, err := Of(b); err != api.OK || !same(e, m) || e.Kind() != kind {
			t.Errorf("%d: %+v, %d", second, e, err)
		}
	}
	for second := range 256 {
		// As media these are one Csrc, and no payload.
		b := []byte{129, byte(second), 0, 3, 0, 0, 0, 7, 0, 0, 0, 8, 0, 9, 0, 5}
		switch {
		case second < 192 || second > 223:
			refused(t, b, api.ErrShort)
		case second == 205:
			want := Feedback{Items: []api.Item{{Kind: 205, Ssrc: 7, Media: 8, Pairs: []api.Pair{{Pid: 9, Blp: 5}}}}}
			if e, err := Of(b); err != api.OK || !same(e, want) {
				t.Error(e, err)
			}
		case second == 200 || second == 201 || second == 203 || second == 206:
			refused(t, b, api.ErrForm)
		default:
			refused(t, b, api.ErrKind)
		}
	}
}

func TestOfEdgesOfFeedback(t *testing.T) {
	for _, c := range []struct {
		second byte
		want   api.Errno
	}{{191, api.OK}, {192, api.ErrKind}, {223, api.ErrKind}, {224, api.OK}} {
		e, err := Of(head(128, c.second, 0, 90, 0, 0))
		if err != c.want || (err == api.OK) != (e != nil) {
			t.Error(c.second, e, err)
		}
		// As media it is short, as feedback it is of no kind.
		want := api.ErrShort
		if c.want == api.ErrKind {
			want = api.ErrKind
		}
		refused(t, []byte{128, c.second, 0, 0}, want)
		refused(t, []byte{128, c.second, 0}, api.ErrShort)
	}
}

func TestOfPayloadOfThree(t *testing.T) {
	payload := []byte{129, 90, 1, 2}
	for n := range 5 {
		for _, pad := range []int{0, 1, 2, 4, 255} {
			first := byte(128)
			b := head(first, 96, payload[:n]...)
			if pad > 0 {
				b = append(b, make([]byte, pad)...)
				b[0], b[len(b)-1] = 160, byte(pad)
			}
			if n < 4 {
				// The padding is not the payload's, the spare room neither.
				refused(t, b, api.ErrShort)
				continue
			}
			e, err := Of(b)
			m, ok := e.(Media)
			if err != api.OK || !ok || m.Desc != (api.Desc{Layer: 1, Key: true, Frame: 258}) || !slices.Equal(m.Packet.Payload, payload) || m.Packet.Pad != pad {
				t.Error(pad, e, err)
			}
		}
	}
	// Neither a Csrc nor an extension is the payload's.
	refused(t, head(129, 96, 129, 90, 1, 2), api.ErrShort)
	refused(t, head(144, 96, 129, 90, 0, 0), api.ErrShort)
	refused(t, head(144, 96, 129, 90, 0, 1, 129, 90, 1, 2, 129, 90, 1), api.ErrShort)
}

// Each is one of rtcp.Get's errors but ErrRange, which is told ahead of it.
func TestOfFeedbackErrors(t *testing.T) {
	for _, c := range []struct {
		b    []byte
		want api.Errno
	}{
		{[]byte{0, 203, 0}, api.ErrShort},
		{[]byte{129, 192, 0}, api.ErrShort},
		{[]byte{0, 203, 0, 1}, api.ErrForm},
		{[]byte{65, 192, 0, 1}, api.ErrForm},
		{[]byte{161, 223, 0, 1}, api.ErrForm},
		{[]byte{193, 203, 0, 1, 0, 0, 0, 7}, api.ErrForm},
		{[]byte{129, 192, 0, 1}, api.ErrKind},
		{[]byte{129, 202, 0, 1, 0, 0, 0, 7}, api.ErrKind},
		{[]byte{129, 223, 255, 255}, api.ErrKind},
		{[]byte{128, 205, 0, 3}, api.ErrKind},
		{[]byte{130, 206, 0, 2, 0, 0, 0, 1, 0, 0, 0, 2}, api.ErrKind},
		{[]byte{128, 203, 0, 0}, api.ErrForm},
		{[]byte{129, 203, 0, 2}, api.ErrForm},
		{[]byte{144, 201, 0, 97}, api.ErrForm},
		{[]byte{129, 205, 0, 2}, api.ErrForm},
		{[]byte{129, 205, 0, 19}, api.ErrForm},
		{[]byte{129, 206, 0, 3}, api.ErrForm},
		{[]byte{129, 203, 0, 1}, api.ErrShort},
		{[]byte{129, 203, 0, 1, 0, 0, 0}, api.ErrShort},
		{[]byte{128, 200, 0, 6, 0, 0, 0, 1}, api.ErrShort},
	} {
		refused(t, c.b, c.want)
		refused(t, append(byeBytes(), c.b...), c.want)
		refused(t, append(allBytes(), c.b...), c.want)
		refused(t, append(slices.Repeat(byeBytes(), 8), c.b...), api.ErrMore)
	}
	refused(t, slices.Repeat(byeBytes(), 9), api.ErrMore)
	refused(t, append(slices.Repeat(byeBytes(), 8), 0), api.ErrMore)
	// What follows is an item, whatever media would be.
	refused(t, append(byeBytes(), shortBytes()...), api.ErrKind)
}

// Each is one of rtp.Get's errors but ErrRange and ErrKind, which can't be left to it, or of desc.Get's.
func TestOfMediaErrors(t *testing.T) {
	for _, c := range []struct {
		b    []byte
		want api.Errno
	}{
		// Fewer than twelve, ahead of all else.
		{head(128, 96)[:11], api.ErrShort},
		{head(0, 96)[:11], api.ErrShort},
		{head(255, 255)[:3], api.ErrShort},
		// The version, ahead of what is missing.
		{head(0, 96, 0, 90, 0, 0), api.ErrForm},
		{head(64, 96), api.ErrForm},
		{head(192, 96, 0, 90, 0, 0), api.ErrForm},
		{head(255, 224), api.ErrForm},
		{head(79, 191, 1), api.ErrForm},
		// What is missing, ahead of the padding.
		{head(129, 96, 0, 0, 0), api.ErrShort},
		{head(143, 96, make([]byte, 59)...), api.ErrShort},
		{head(144, 96, 0, 0, 0), api.ErrShort},
		{head(144, 96, 0, 0, 0, 1, 0, 0, 0), api.ErrShort},
		{head(191, 96, 0, 90, 0, 0), api.ErrShort},
		{head(176, 96, 0, 0, 0, 1), api.ErrShort},
		// The padding, ahead of the descriptor.
		{head(160, 96), api.ErrForm},
		{head(160, 96, 0), api.ErrForm},
		{head(160, 96, 2), api.ErrForm},
		{head(160, 96, 0, 90, 0, 0), api.ErrForm},
		{head(160, 96, 0, 90, 0, 0, 6), api.ErrForm},
		{head(160, 96, 0, 90, 0, 0, 1, 2), api.ErrForm},
		{head(160, 96, 7, 91, 1, 3), api.ErrForm},
		// The descriptor: what is missing of it, ahead of what may not be.
		{head(128, 96), api.ErrShort},
		{head(128, 96, 0, 90, 0), api.ErrShort},
		{head(128, 96, 255, 255, 255), api.ErrShort},
		{head(128, 96, 3, 90, 0, 0), api.ErrForm},
		{head(128, 96, 4, 90, 0, 0), api.ErrForm},
		{head(128, 96, 8, 90, 0, 0), api.ErrForm},
		{head(128, 96, 16, 90, 0, 0), api.ErrForm},
		{head(128, 96, 32, 90, 0, 0), api.ErrForm},
		{head(128, 96, 0, 89, 0, 0), api.ErrForm},
		{head(128, 96, 0, 91, 0, 0, 90), api.ErrForm},
		{head(129, 96, 0, 90, 0, 0, 0, 0, 0, 0), api.ErrForm},
	} {
		refused(t, c.b, c.want)
	}
}

// wantDesc is the chapter's rule of a descriptor, by what it names one by one.
func wantDesc(first, second int) (api.Desc, bool) {
	if second != 90 || first%4 == 3 || first/4%16 != 0 {
		return api.Desc{}, false
	}
	return api.Desc{Layer: first % 4, Key: first >= 128, Start: first/64%2 == 1, Frame: 258}, true
}

// Of every descriptor: what is read is told, and written as it was; no other one can be told of it.
func TestEveryDescriptor(t *testing.T) {
	for first := range 256 {
		for second := range 256 {
			b := head(128, 96, byte(first), byte(second), 1, 2)
			want, ok := wantDesc(first, second)
			if !ok {
				refused(t, b, api.ErrForm)
				notPut(t, Media{Packet: api.Packet{Payload: b[12:]}, Desc: api.Desc{Layer: first % 4, Key: first >= 128, Start: first/64%2 == 1, Frame: 258}}, api.ErrForm)
				continue
			}
			e, err := Of(b)
			if _, d, _ := Flat(e); err != api.OK || d != want {
				t.Fatal(first, second, d, err)
			}
			if again, err := Bytes(e); err != api.OK || !slices.Equal(again, b) {
				t.Fatal(first, second, again, err)
			}
		}
	}
}

// wantOf is Of's answer as the chapter says it by what the layers below answer.
func wantOf(b []byte) (Event, api.Errno) {
	switch {
	case len(b) > 512:
		return nil, api.ErrRange
	case len(b) < 2:
		return nil, api.ErrShort
	case b[1]/32 == 6:
		if l, err := rtcp.Get(b); err == api.OK {
			return Feedback{l}, api.OK
		} else {
			return nil, err
		}
	}
	p, err := rtp.Get(b)
	if err != api.OK {
		return nil, err
	}
	d, err := desc.Get(p.Payload)
	if err != api.OK {
		return nil, err
	}
	return Media{p, d}, api.OK
}

// dice is a row of numbers that is the same each time.
type dice uint64

func (d *dice) below(n int) int {
	*d = *d*6364136223846793005 + 1442695040888963407
	return int(uint64(*d)>>33) % n
}

// anyDatagram is a right one of which something may be other, or cut off, or added.
func anyDatagram(d *dice) []byte {
	right := rightOnes()
	b := right[d.below(len(right))].b
	for range d.below(3) {
		b[d.below(len(b))] = byte(d.below(256))
	}
	switch d.below(8) {
	case 0:
		b = b[:d.below(len(b)+1)]
	case 1:
		b = append(b, make([]byte, d.below(9))...)
	case 2:
		b = append(b, slices.Repeat(byeBytes(), d.below(9))...)
	case 3:
		b[d.below(2)] ^= 1 << d.below(8)
	}
	return b
}

// What is read is told, and written as it was; and it is read just where the chapter says so.
func TestAnyDatagram(t *testing.T) {
	d := dice(10)
	seen := map[api.Errno]int{}
	for range 100000 {
		b := anyDatagram(&d)
		before := slices.Clone(b)
		e, err := Of(b)
		seen[err]++
		want, wantErr := wantOf(b)
		if err != wantErr || (err == api.OK) != (e != nil) || err == api.OK && !same(e, want) {
			t.Fatalf("Of(%v) = %+v, %d, want %+v, %d", b, e, err, want, wantErr)
		}
		if !slices.Equal(b, before) {
			t.Fatal("the bytes were changed:", before)
		}
		if err != api.OK {
			continue
		}
		if again, err := Bytes(e); err != api.OK || !slices.Equal(again, b) {
			t.Fatalf("Bytes(Of(%v)) = %v, %d", b, again, err)
		}
	}
	for _, err := range []api.Errno{api.OK, api.ErrForm, api.ErrShort, api.ErrKind, api.ErrMore, api.ErrRange} {
		if seen[err] < 300 {
			t.Error("too few of error", err, seen[err])
		}
	}
}

// spare is a list with room behind it that holds just fill.
func spare[T any](list []T, fill T) []T {
	whole := append(slices.Clone(list), fill, fill, fill)
	return whole[: len(list) : len(list)+3]
}

// untouched: the room behind a list of spare holds what it held.
func untouched[T comparable](list []T, fill T) bool {
	for _, x := range list[len(list):cap(list)] {
		if x != fill {
			return false
		}
	}
	return true
}

// scribble writes into all of a list, its spare room, too.
func scribble[T any](list []T, x T) {
	for i := range list[:cap(list)] {
		list[:cap(list)][i] = x
	}
}

func scribblePacket(p api.Packet) {
	scribble(p.Csrc, 99)
	scribble(p.Ext, 99)
	scribble(p.Payload, 99)
}

// scribbleItems writes into all lists of items, and then into their own.
func scribbleItems(l []api.Item) {
	for _, i := range l {
		scribble(i.Blocks, api.Block{Ssrc: 99})
		scribble(i.Gone, 99)
		scribble(i.Pairs, api.Pair{Pid: 99})
	}
	scribble(l, api.Item{Kind: 99})
}

func scribbleEvent(e Event) {
	switch e := e.(type) {
	case Media:
		scribblePacket(e.Packet)
	case Feedback:
		scribbleItems(e.Items)
	}
}

func TestOfIsNewMemory(t *testing.T) {
	for _, c := range rightOnes() {
		b := spare(c.b, 77)
		e, _ := Of(b)
		f, _ := Of(b)
		scribbleEvent(e)
		if !slices.Equal(b, c.b) || !untouched(b, 77) {
			t.Error("a write into an answer is seen in the bytes")
		}
		scribble(b, 200)
		if !same(f, c.e) {
			t.Errorf("an answer shares memory with another, or with the bytes: %+v", f)
		}
		if e, err := Of(c.b); err != api.OK || !same(e, c.e) {
			t.Errorf("an answer hangs on one before it: %+v, %d", e, err)
		}
	}
}

// spared is an event whose lists have room behind them.
func spared(e Event) Event {
	switch e := e.(type) {
	case Media:
		e.Packet.Csrc, e.Packet.Ext, e.Packet.Payload = spare(e.Packet.Csrc, 77), spare(e.Packet.Ext, 77), spare(e.Packet.Payload, 77)
		return e
	case Feedback:
		e.Items = spare(e.Items, api.Item{Kind: 77})
		for k, i := range e.Items {
			e.Items[k].Blocks, e.Items[k].Gone, e.Items[k].Pairs = spare(i.Blocks, api.Block{Ssrc: 77}), spare(i.Gone, 77), spare(i.Pairs, api.Pair{Pid: 77})
		}
		return e
	}
	return e
}

// spareKept: the room behind the lists of spared holds what it held.
func spareKept(e Event) bool {
	switch e := e.(type) {
	case Media:
		return untouched(e.Packet.Csrc, 77) && untouched(e.Packet.Ext, 77) && untouched(e.Packet.Payload, 77)
	case Feedback:
		for _, i := range e.Items {
			if !untouched(i.Blocks, api.Block{Ssrc: 77}) || !untouched(i.Gone, 77) || !untouched(i.Pairs, api.Pair{Pid: 77}) {
				return false
			}
		}
		for _, i := range e.Items[len(e.Items):cap(e.Items)] {
			if i.Kind != 77 || i.Blocks != nil || i.Gone != nil || i.Pairs != nil {
				return false
			}
		}
	}
	return true
}

func TestFlatIsNewMemory(t *testing.T) {
	for _, c := range rightOnes() {
		e := spared(c.e)
		p, d, l := Flat(e)
		q, f, m := Flat(e)
		scribblePacket(p)
		scribbleItems(l)
		if !same(e, c.e) || !spareKept(e) {
			t.Errorf("a write into an answer is seen in the event: %+v", e)
		}
		scribbleEvent(e)
		if media, ok := c.e.(Media); ok && (!samePacket(q, media.Packet) || d != f) {
			t.Errorf("an answer shares memory with another, or with the event: %+v", q)
		}
		if back, ok := c.e.(Feedback); ok && !sameItems(m, back.Items) {
			t.Errorf("an answer shares memory with another, or with the event: %+v", m)
		}
	}
}

// No two lists of one answer share memory, though those of the event do.
func TestFlatListsAreApart(t *testing.T) {
	b := []byte{129, 90, 1, 2, 3, 4, 5, 6}
	p, _, _ := Flat(Media{Packet: api.Packet{HasExt: true, Ext: b, Payload: b}})
	scribble(p.Ext, 99)
	if !slices.Equal(p.Payload, b) {
		t.Error("Ext and Payload share memory:", p.Payload)
	}
	blocks, gone, pairs := make([]api.Block, 3), make([]uint32, 3), make([]api.Pair, 3)
	i := api.Item{Blocks: blocks, Gone: gone, Pairs: pairs}
	_, _, l := Flat(Feedback{Items: []api.Item{i, i, {Blocks: blocks[:1], Gone: gone[1:], Pairs: pairs[:0]}}})
	scribble(l[0].Blocks, api.Block{Ssrc: 99})
	scribble(l[0].Gone, 99)
	scribble(l[0].Pairs, api.Pair{Pid: 99})
	if want := []api.Item{i, {Blocks: make([]api.Block, 1), Gone: make([]uint32, 2)}}; !sameItems(l[1:], want) {
		t.Errorf("items share memory: %+v", l[1:])
	}
}

func TestBytesIsNewMemory(t *testing.T) {
	for _, c := range rightOnes() {
		e := spared(c.e)
		b, err := Bytes(e)
		again, _ := Bytes(e)
		if err != api.OK || !slices.Equal(b, c.b) {
			t.Errorf("what is in the spare room counts: %v, %d", b, err)
		}
		scribble(b, 200)
		if !same(e, c.e) || !spareKept(e) {
			t.Errorf("the event was changed: %+v", e)
		}
		scribbleEvent(e)
		if !slices.Equal(again, c.b) {
			t.Error("an answer shares memory with another, or with the event:", again)
		}
	}
}

// A payload is not read on into its spare room.
func TestBytesOfThreeAndRoom(t *testing.T) {
	whole := []byte{1, 90, 0, 0}
	notPut(t, Media{Packet: api.Packet{Payload: whole[:3]}, Desc: api.Desc{Layer: 1}}, api.ErrForm)
	b, err := Bytes(Media{Packet: api.Packet{Payload: whole}, Desc: api.Desc{Layer: 1}})
	if err != api.OK || !slices.Equal(b, []byte{128, 0, 0, 0, 0, 0, 0, 0, 0, 0, 0, 0, 1, 90, 0, 0}) {
		t.Error(b, err)
	}
}

func TestNilAndEmpty(t *testing.T) {
	m := bareMedia()
	m.Packet.Csrc, m.Packet.Ext = []uint32{}, []byte{}
	if b, err := Bytes(m); err != api.OK || !slices.Equal(b, bareBytes()) {
		t.Error(b, err)
	}
	if p, d, l := Flat(m); !samePacket(p, bareMedia().Packet) || d != m.Desc || l != nil {
		t.Error(p, d, l)
	}
	f := bye()
	f.Items[0].Blocks, f.Items[0].Pairs = []api.Block{}, []api.Pair{}
	if b, err := Bytes(f); err != api.OK || !slices.Equal(b, byeBytes()) {
		t.Error(b, err)
	}
	for _, items := range [][]api.Item{nil, {}} {
		notPut(t, Feedback{Items: items}, api.ErrForm)
		if p, d, l := Flat(Feedback{Items: items}); !reflect.DeepEqual(p, api.Packet{}) || d != (api.Desc{}) || len(l) != 0 {
			t.Error(p, d, l)
		}
	}
}

func ExampleOf() {
	e, err := Of([]byte{129, 206, 0, 2, 0, 0, 0, 1, 0, 0, 1, 2})
	_, _, items := Flat(e)
	fmt.Println(e.Kind(), items[0].Media, err == api.OK)
	// Output: 2 258 true
}

func ExampleBytes() {
	b, err := Bytes(Media{Packet: api.Packet{Type: 96, Ssrc: 7, Payload: []byte{65, 90, 0, 9}}, Desc: api.Desc{Layer: 1, Start: true, Frame: 9}})
	fmt.Println(b, err == api.OK)
	// Output: [128 96 0 0 0 0 0 0 0 0 0 7 65 90 0 9] true
}
