package store

import (
	"bytes"
	"fmt"
	"math"
	"slices"
	"testing"

	"sluicegate/api"
)

// model is a store as the chapters' words have it, written apart from it: the free slots in a row of rising numbers, the others' references one by one, and the bytes of each live handle.
type model struct {
	size int
	free []int
	gen  map[int]uint32
	held map[api.Handle]int
	has  map[api.Handle][]byte
}

func newModel(n int) *model {
	m := &model{size: n, gen: map[int]uint32{}, held: map[api.Handle]int{}, has: map[api.Handle][]byte{}}
	for k := range n {
		m.free = append(m.free, k)
		m.gen[k] = 1
	}
	return m
}

func (m *model) put(b []byte) (api.Handle, api.Errno) {
	if len(b) > 512 {
		return api.Handle{}, api.ErrRange
	}
	if len(m.free) == 0 {
		return api.Handle{}, api.ErrFull
	}
	h := api.Handle{Slot: m.free[0], Gen: m.gen[m.free[0]]}
	m.free = m.free[1:]
	m.held[h], m.has[h] = 1, slices.Clone(b)
	return h, api.OK
}

func (m *model) bytes(h api.Handle) ([]byte, api.Errno) {
	if m.held[h] == 0 {
		return nil, api.ErrStale
	}
	return m.has[h], api.OK
}

func (m *model) patch(h api.Handle, p api.Patch) api.Errno {
	if m.held[h] == 0 {
		return api.ErrStale
	}
	if m.held[h] != 1 {
		return api.ErrState
	}
	at := descAt(m.has[h])
	if at < 0 {
		return api.ErrForm
	}
	m.has[h] = patched(m.has[h], at, p)
	return api.OK
}

func (m *model) keep(h api.Handle) api.Errno {
	if m.held[h] == 0 {
		return api.ErrStale
	}
	m.held[h]++
	return api.OK
}

func (m *model) drop(h api.Handle) api.Errno {
	if m.held[h] == 0 {
		return api.ErrStale
	}
	m.held[h]--
	if m.held[h] == 0 {
		delete(m.held, h)
		delete(m.has, h)
		m.gen[h.Slot]++
		m.free = append(slices.Clone(m.free), h.Slot)
		slices.Sort(m.free)
	}
	return api.OK
}

func (m *model) slots() []api.Slot {
	var list []api.Slot
	for k := range m.size {
		g := m.gen[k]
		list = append(list, api.Slot{Gen: g, Refs: m.held[api.Handle{Slot: k, Gen: g}]})
	}
	return list
}

// descAt is where a media packet's descriptor begins, and -1 of bytes that are no packet, or one without.
func descAt(b []byte) int {
	if len(b) < 12 || len(b) > 512 || b[0]>>6 != 2 || b[1] >= 192 && b[1] <= 223 {
		return -1
	}
	at, end := 12+4*int(b[0]&15), len(b)
	if b[0]&16 != 0 {
		if end < at+4 {
			return -1
		}
		at += 4 + 4*(int(b[at+2])*256+int(b[at+3]))
	}
	if b[0]&32 != 0 {
		pad := int(b[end-1])
		if pad == 0 || pad > end-at || !zeros(b[end-pad:end-1]) {
			return -1
		}
		end -= pad
	}
	if end < at+4 || b[at]&60 != 0 || b[at]&3 == 3 || b[at+1] != 90 {
		return -1
	}
	return at
}

func zeros(b []byte) bool {
	return !slices.ContainsFunc(b, func(x byte) bool { return x != 0 })
}

// patched is what a patch is to leave of a packet, byte for byte; at is where its descriptor is.
func patched(b []byte, at int, p api.Patch) []byte {
	w := slices.Clone(b)
	w[2], w[3] = byte(p.Seq>>8), byte(p.Seq)
	w[4], w[5], w[6], w[7] = byte(p.Time>>24), byte(p.Time>>16), byte(p.Time>>8), byte(p.Time)
	w[8], w[9], w[10], w[11] = byte(p.Ssrc>>24), byte(p.Ssrc>>16), byte(p.Ssrc>>8), byte(p.Ssrc)
	w[at] &= 192
	w[at+2], w[at+3] = byte(p.Frame>>8), byte(p.Frame)
	return w
}

// shape is how great a packet's parts are.
type shape struct {
	csrc, ext, payload, pad int // ext: -1: none
}

// bytes are a packet of this shape whose payload begins with head.
func (f shape) bytes(head ...byte) []byte {
	b := []byte{128 + byte(f.csrc), 128 + 111, 0x71, 0x72, 0x73, 0x74, 0x75, 0x76, 0x77, 0x78, 0x79, 0x7a}
	b = append(b, fill(4*f.csrc)...)
	if f.ext >= 0 {
		b[0] += 16
		b = append(b, 0xbe, 0xde, byte(f.ext>>8), byte(f.ext))
		b = append(b, fill(4*f.ext)...)
	}
	b = append(append(b, head...), fill(f.payload)...)
	if f.pad > 0 {
		b[0] += 32
		b = append(append(b, make([]byte, f.pad-1)...), byte(f.pad))
	}
	return b
}

// descAt is where the payload begins.
func (f shape) descAt() int {
	at := 12 + 4*f.csrc
	if f.ext >= 0 {
		at += 4 + 4*f.ext
	}
	return at
}

// shapes are packets with and without Csrc, extension, padding and bytes behind the descriptor, up to the longest.
func shapes() []shape {
	var list []shape
	for _, csrc := range []int{0, 1, 15} {
		for _, ext := range []int{-1, 0, 3} {
			for _, payload := range []int{0, 1, 30} {
				for _, pad := range []int{0, 1, 4, 255} {
					list = append(list, shape{csrc, ext, payload, pad})
				}
			}
		}
	}
	return append(list, shape{0, -1, 512 - 16, 0}, shape{15, 10, 512 - 72 - 44 - 4 - 9, 9}, shape{0, 123, 0, 0})
}

// fill are n bytes, none of them 0.
func fill(n int) []byte {
	b := make([]byte, n)
	for i := range b {
		b[i] = byte(i%50 + 101)
	}
	return b
}

// row are n bytes, of each k others.
func row(k, n int) []byte {
	b := make([]byte, n)
	for i := range b {
		b[i] = byte(k + i*7 + k>>8*(i%3))
	}
	return b
}

// packet is a short one with a descriptor.
func packet() []byte {
	return shape{0, -1, 3, 0}.bytes(192+2, 90, 0x7b, 0x7c)
}

// somePatch has other bytes than any packet here.
var somePatch = api.Patch{Seq: 0x0102, Time: 0x03040506, Ssrc: 0x0708090a, Frame: 0x0b0c}

// picture is all that can be read of a store.
type picture struct {
	free  int
	slots []api.Slot
	has   [][]byte
}

func look(t *testing.T, s *Store) picture {
	t.Helper()
	p := picture{free: s.Free(), slots: s.Slots()}
	for k, slot := range p.slots {
		b, err := s.Bytes(api.Handle{Slot: k, Gen: slot.Gen})
		if want := slot.Refs > 0; want != (err == api.OK) {
			t.Errorf("Bytes of slot %d, %v: %d", k, slot, err)
		}
		p.has = append(p.has, b)
	}
	return p
}

// as holds that all that can be read of a store is as it was.
func (p picture) as(t *testing.T, s *Store, what string) {
	t.Helper()
	q := look(t, s)
	if q.free != p.free || !slices.Equal(q.slots, p.slots) || !slices.EqualFunc(q.has, p.has, bytes.Equal) {
		t.Errorf("%s changed %v to %v", what, p, q)
	}
}

// has holds that a live handle has just these bytes.
func has(t *testing.T, s *Store, h api.Handle, want []byte) {
	t.Helper()
	if b, err := s.Bytes(h); err != api.OK || !bytes.Equal(b, want) {
		t.Errorf("Bytes(%v) = %v, %d, want %v", h, b, err, want)
	}
}

// put is what Put answers, which must be this one.
func put(t *testing.T, s *Store, b []byte, slot int, gen uint32) api.Handle {
	t.Helper()
	h, err := s.Put(b)
	if want := (api.Handle{Slot: slot, Gen: gen}); err != api.OK || h != want {
		t.Fatalf("Put of %d bytes = %v, %d, want %v", len(b), h, err, want)
	}
	return h
}

// notPut holds that Put answers this error, and does nothing.
func notPut(t *testing.T, s *Store, b []byte, want api.Errno) {
	t.Helper()
	old := look(t, s)
	if h, err := s.Put(b); err != want || h != (api.Handle{}) {
		t.Errorf("Put of %d bytes = %v, %d, want %d", len(b), h, err, want)
	}
	old.as(t, s, "Put")
}

func kept(t *testing.T, s *Store, list ...api.Handle) {
	t.Helper()
	for _, h := range list {
		if err := s.Keep(h); err != api.OK {
			t.Fatalf("Keep(%v) = %d", h, err)
		}
	}
}

func dropped(t *testing.T, s *Store, list ...api.Handle) {
	t.Helper()
	for _, h := range list {
		if err := s.Drop(h); err != api.OK {
			t.Fatalf("Drop(%v) = %d", h, err)
		}
	}
}

func changed(t *testing.T, s *Store, h api.Handle, p api.Patch) {
	t.Helper()
	if err := s.Patch(h, p); err != api.OK {
		t.Fatalf("Patch(%v, %v) = %d", h, p, err)
	}
}

// notChanged holds that Patch answers this error, and does nothing.
func notChanged(t *testing.T, s *Store, h api.Handle, want api.Errno) {
	t.Helper()
	old := look(t, s)
	for _, p := range []api.Patch{somePatch, {}} {
		if err := s.Patch(h, p); err != want {
			t.Errorf("Patch(%v, %v) = %d, want %d", h, p, err, want)
		}
	}
	old.as(t, s, "Patch")
}

// stale: nothing is told, and nothing done, of a handle that is not live.
func stale(t *testing.T, s *Store, h api.Handle) {
	t.Helper()
	old := look(t, s)
	if b, err := s.Bytes(h); err != api.ErrStale || len(b) != 0 {
		t.Errorf("Bytes(%v) = %v, %d", h, b, err)
	}
	if err := s.Patch(h, somePatch); err != api.ErrStale {
		t.Errorf("Patch(%v) = %d", h, err)
	}
	if err := s.Keep(h); err != api.ErrStale {
		t.Errorf("Keep(%v) = %d", h, err)
	}
	if err := s.Drop(h); err != api.ErrStale {
		t.Errorf("Drop(%v) = %d", h, err)
	}
	if n := s.Refs(h); n != 0 {
		t.Errorf("Refs(%v) = %d", h, n)
	}
	old.as(t, s, "a handle that is not live")
}

// strange are handles of no slot of so many, and of no Gen that a young store has.
func strange(n int) []api.Handle {
	list := []api.Handle{{}}
	for _, k := range []int{-1, -2, -n, -n - 1, math.MinInt, math.MinInt + 1, n, n + 1, 1024, 1025, 4096, 1 << 31, 1 << 32, math.MaxInt} {
		if 0 <= k && k < n {
			continue
		}
		for _, g := range []uint32{0, 1, 2, math.MaxUint32} {
			list = append(list, api.Handle{Slot: k, Gen: g})
		}
	}
	for _, k := range []int{0, n / 2, n - 1} {
		for _, g := range []uint32{0, 1 << 16, 1 << 31, math.MaxUint32} {
			list = append(list, api.Handle{Slot: k, Gen: g})
		}
	}
	return list
}

func TestNew(t *testing.T) {
	for _, c := range []struct{ n, slots int }{
		{math.MinInt, 1}, {-1024, 1}, {-1, 1}, {0, 1}, {1, 1}, {2, 2}, {3, 3}, {64, 64}, {255, 255}, {256, 256}, {257, 257},
		{1023, 1023}, {1024, 1024}, {1025, 1024}, {5000, 1024}, {1 << 32, 1024}, {1<<32 + 5, 1024}, {math.MaxInt, 1024},
	} {
		s := New(c.n)
		if s.Free() != c.slots {
			t.Errorf("New(%d): Free = %d, want %d", c.n, s.Free(), c.slots)
		}
		if l := s.Slots(); !slices.Equal(l, slices.Repeat([]api.Slot{{Gen: 1}}, c.slots)) {
			t.Errorf("New(%d): Slots = %v", c.n, l)
		}
		for k := range c.slots {
			put(t, s, row(k, 512), k, 1)
			if s.Free() != c.slots-k-1 {
				t.Errorf("New(%d): Free = %d behind %d", c.n, s.Free(), k)
			}
		}
		notPut(t, s, nil, api.ErrFull)
		// Each slot has room of its own, the greatest too.
		for k := range c.slots {
			has(t, s, api.Handle{Slot: k, Gen: 1}, row(k, 512))
		}
	}
}

// Of a new store no handle is live, the next one that is told neither.
func TestNewHasNoLiveHandle(t *testing.T) {
	for _, n := range []int{1, 2, 7, 1024} {
		s := New(n)
		for _, k := range []int{-2, -1, 0, 1, n - 1, n, n + 1} {
			for g := range uint32(4) {
				stale(t, s, api.Handle{Slot: k, Gen: g})
			}
		}
	}
}

func TestPutAndBytes(t *testing.T) {
	s := New(3)
	var list []api.Handle
	rows := [][]byte{packet(), {1}, {}}
	for k, b := range rows {
		h := put(t, s, b, k, 1)
		list = append(list, h)
		if s.Refs(h) != 1 || s.Free() != 2-k {
			t.Error(h, s.Refs(h), s.Free())
		}
		for i, g := range list {
			has(t, s, g, rows[i])
		}
	}
	if l := s.Slots(); !slices.Equal(l, []api.Slot{{Gen: 1, Refs: 1}, {Gen: 1, Refs: 1}, {Gen: 1, Refs: 1}}) {
		t.Error(l)
	}
}

// Every length that there is room for, in a slot that had none, all, and the one ahead of it.
func TestPutOfEveryLength(t *testing.T) {
	fresh, full, turns := New(513), New(1), New(1)
	gen := uint32(0)
	for n := range 513 {
		b := row(n, n)
		has(t, fresh, put(t, fresh, b, n, 1), b)
		dropped(t, full, put(t, full, row(3, 512), 0, uint32(2*n+1)))
		h := put(t, full, b, 0, uint32(2*n+2))
		has(t, full, h, b)
		dropped(t, full, h)
		for _, b := range [][]byte{row(1, n), row(2, 512-n)} {
			gen++
			h := put(t, turns, b, 0, gen)
			has(t, turns, h, b)
			dropped(t, turns, h)
		}
	}
	for n := range 513 {
		has(t, fresh, api.Handle{Slot: n, Gen: 1}, row(n, n))
	}
}

func TestPutOfNothing(t *testing.T) {
	s := New(2)
	for k, b := range [][]byte{nil, {}} {
		h := put(t, s, b, k, 1)
		has(t, s, h, nil)
		if s.Refs(h) != 1 {
			t.Error(s.Refs(h))
		}
		notChanged(t, s, h, api.ErrForm)
	}
	notPut(t, s, nil, api.ErrFull)
	notPut(t, s, []byte{}, api.ErrFull)
}

// Too many bytes are told ahead of a full store, and take no slot of one that is not.
func TestPutOfTooMany(t *testing.T) {
	long := []int{513, 514, 600, 767, 768, 769, 1024, 1025, 65535, 65536, 65536 + 1, 65536 + 512, 1 << 20}
	for _, n := range []int{1, 2, 5} {
		s := New(n)
		for k := range n {
			for _, size := range long {
				notPut(t, s, make([]byte, size), api.ErrRange)
			}
			put(t, s, row(k, 512), k, 1)
		}
		for _, size := range long {
			notPut(t, s, make([]byte, size), api.ErrRange)
		}
		for _, size := range []int{0, 1, 17, 511, 512} {
			notPut(t, s, make([]byte, size), api.ErrFull)
		}
		dropped(t, s, api.Handle{Slot: n - 1, Gen: 1})
		notPut(t, s, row(9, 513), api.ErrRange)
		has(t, s, put(t, s, row(9, 512), n-1, 2), row(9, 512))
	}
}

// What counts is how many bytes there are, not for how many there is room.
func TestPutOfBytesWithSpareRoom(t *testing.T) {
	s := New(2)
	b := row(5, 2000)
	has(t, s, put(t, s, b[:512], 0, 1), row(5, 512))
	has(t, s, put(t, s, b[:0], 1, 1), nil)
}

func TestPutTakesTheLeastFreeOne(t *testing.T) {
	s := New(6)
	for k := range 6 {
		put(t, s, row(k, 20+k), k, 1)
	}
	at := func(k int) api.Handle { return api.Handle{Slot: k, Gen: 1} }
	dropped(t, s, at(4), at(1), at(3))
	put(t, s, row(11, 9), 1, 2)
	dropped(t, s, at(0))
	put(t, s, row(10, 9), 0, 2)
	put(t, s, row(13, 9), 3, 2)
	put(t, s, row(14, 9), 4, 2)
	notPut(t, s, nil, api.ErrFull)
	for k := range 6 {
		if k == 2 || k == 5 {
			has(t, s, at(k), row(k, 20+k))
		} else {
			stale(t, s, at(k))
			has(t, s, api.Handle{Slot: k, Gen: 2}, row(10+k, 9))
		}
	}
}

// The last free slot, whichever of all it is.
func TestPutIntoTheLastFreeSlot(t *testing.T) {
	const n = 40
	s := New(n)
	for k := range n {
		put(t, s, row(k, 30), k, 1)
	}
	for k := range n {
		dropped(t, s, api.Handle{Slot: k, Gen: 1})
		if s.Free() != 1 {
			t.Error(k, s.Free())
		}
		put(t, s, row(100+k, 25), k, 2)
		notPut(t, s, packet(), api.ErrFull)
		for i := range n {
			if i <= k {
				has(t, s, api.Handle{Slot: i, Gen: 2}, row(100+i, 25))
			} else {
				has(t, s, api.Handle{Slot: i, Gen: 1}, row(i, 30))
			}
		}
	}
}

// A slot that is taken again has the new bytes alone: what a longer one left behind them makes no packet of them.
func TestSlotThatWasTakenAgain(t *testing.T) {
	for _, f := range []shape{{0, -1, 0, 0}, {0, -1, 8, 0}, {2, 1, 3, 0}, {0, -1, 0, 2}} {
		whole := f.bytes(65, 90, 5, 5)
		for n := range len(whole) {
			s := New(2)
			old := put(t, s, whole, 0, 1)
			if n%2 == 0 {
				changed(t, s, old, somePatch)
			}
			dropped(t, s, old)
			stale(t, s, old)
			stale(t, s, api.Handle{Slot: 0, Gen: 2})
			h := put(t, s, whole[:n], 0, 2)
			stale(t, s, old)
			has(t, s, h, whole[:n])
			if at := descAt(whole[:n]); at < 0 {
				notChanged(t, s, h, api.ErrForm)
			} else {
				changed(t, s, h, somePatch)
				has(t, s, h, patched(whole[:n], at, somePatch))
			}
			dropped(t, s, h)
			has(t, s, put(t, s, whole, 0, 3), whole)
		}
	}
}

func TestPatchWritesJustTheFields(t *testing.T) {
	for _, f := range shapes() {
		for _, head := range []byte{0, 1, 2, 64, 65, 66, 128, 129, 130, 192, 193, 194} {
			b := f.bytes(head, 90, 0x7b, 0x7c)
			s := New(3)
			put(t, s, b, 0, 1)
			h := put(t, s, b, 1, 1)
			put(t, s, b, 2, 1)
			old := look(t, s)
			changed(t, s, h, somePatch)
			old.has[1] = patched(b, f.descAt(), somePatch)
			old.as(t, s, "besides its bytes Patch")
		}
	}
}

func TestPatchWrittenOut(t *testing.T) {
	s := New(1)
	h := put(t, s, []byte{128, 96, 1, 2, 3, 4, 5, 6, 7, 8, 9, 10, 192 + 1, 90, 11, 12, 13}, 0, 1)
	changed(t, s, h, api.Patch{Seq: 0xfffe, Time: 0xfdfcfbfa, Ssrc: 0xf9f8f7f6, Frame: 0xf5f4})
	has(t, s, h, []byte{128, 96, 0xff, 0xfe, 0xfd, 0xfc, 0xfb, 0xfa, 0xf9, 0xf8, 0xf7, 0xf6, 192, 90, 0xf5, 0xf4, 13})
}

// The least and the greatest numbers, and one patch behind the other, each in its own fields.
func TestPatchAgain(t *testing.T) {
	f := shape{1, 2, 5, 3}
	s := New(1)
	b := f.bytes(128+2, 90, 5, 5)
	h := put(t, s, b, 0, 1)
	for _, n := range []uint32{0, 1, 255, 256, 0x7fff, 0x8000, 0xffff, 0x10000, 0x7fffffff, 0x80000000, math.MaxUint32, 0} {
		for _, p := range []api.Patch{{Seq: uint16(n)}, {Time: n}, {Ssrc: n}, {Frame: uint16(n)}, {Seq: ^uint16(n), Time: n, Ssrc: ^n, Frame: uint16(n)}} {
			for range 2 {
				changed(t, s, h, p)
				b = patched(b, f.descAt(), p)
				has(t, s, h, b)
			}
		}
	}
	if l := s.Slots(); !slices.Equal(l, []api.Slot{{Gen: 1, Refs: 1}}) {
		t.Error(l)
	}
}

// One reference, no more, may change what stands there.
func TestPatchWithMoreReferences(t *testing.T) {
	s := New(2)
	other := put(t, s, packet(), 0, 1)
	h := put(t, s, packet(), 1, 1)
	for range 5 {
		kept(t, s, h)
		notChanged(t, s, h, api.ErrState)
		has(t, s, h, packet())
	}
	for range 4 {
		dropped(t, s, h)
		notChanged(t, s, h, api.ErrState)
	}
	dropped(t, s, h)
	changed(t, s, h, somePatch)
	has(t, s, h, patched(packet(), 12, somePatch))
	has(t, s, other, packet())
	kept(t, s, h, other, other)
	notChanged(t, s, h, api.ErrState)
	has(t, s, h, patched(packet(), 12, somePatch))
	dropped(t, s, h, h)
	stale(t, s, h)
}

// The references of another slot do not count.
func TestPatchBesideMoreReferences(t *testing.T) {
	s := New(2)
	g, h := put(t, s, packet(), 0, 1), put(t, s, packet(), 1, 1)
	kept(t, s, g)
	changed(t, s, h, somePatch)
	notChanged(t, s, g, api.ErrState)
	has(t, s, g, packet())
	has(t, s, h, patched(packet(), 12, somePatch))
}

// noPackets are bytes that may not be patched, though there is room for them.
func noPackets() map[string][]byte {
	right := shape{1, 1, 4, 0}.bytes(65, 90, 5, 5)
	with := func(at int, x byte) []byte {
		b := slices.Clone(right)
		b[at] = x
		return b
	}
	padded := shape{0, -1, 0, 4}.bytes(65, 90, 5, 5)
	wrongPad := slices.Clone(padded)
	wrongPad[len(wrongPad)-2] = 1
	return map[string][]byte{
		"none":                   nil,
		"one":                    {128},
		"eleven":                 right[:11],
		"zeros":                  make([]byte, 40),
		"512 zeros":              make([]byte, 512),
		"512 of 128":             slices.Repeat([]byte{128}, 512),
		"version 0":              with(0, right[0]&63),
		"version 1":              with(0, right[0]&63|64),
		"version 3":              with(0, right[0]|192),
		"feedback 192":           with(1, 192),
		"feedback 201":           with(1, 201),
		"feedback 223":           with(1, 223),
		"Csrc beyond the end":    with(0, 128+16+15),
		"Ext beyond the end":     with(19, 200),
		"Ext far beyond":         with(18, 255),
		"padding of 0":           append(slices.Clone(padded[:len(padded)-1]), 0),
		"padding too long":       append(slices.Clone(padded[:len(padded)-1]), 9),
		"padding not 0":          wrongPad,
		"nothing to be pad":      {128 + 32, 96, 0, 0, 0, 0, 0, 0, 0, 0, 0, 0},
		"no payload":             shape{1, 0, 0, 0}.bytes(),
		"no payload, but pad":    shape{0, -1, 0, 30}.bytes(),
		"3 bytes of it":          shape{0, -1, 0, 0}.bytes(65, 90, 5),
		"3 bytes of it, and pad": shape{0, -1, 0, 4}.bytes(65, 90, 0),
		"a bit of 4":             shape{0, -1, 4, 0}.bytes(4, 90, 5, 5),
		"a bit of 8":             shape{0, -1, 4, 0}.bytes(128+8, 90, 5, 5),
		"a bit of 16":            shape{0, -1, 4, 0}.bytes(64+16, 90, 5, 5),
		"a bit of 32":            shape{0, -1, 4, 0}.bytes(32+1, 90, 5, 5),
		"a layer of 3":           shape{0, -1, 4, 0}.bytes(64+3, 90, 5, 5),
		"no 90":                  shape{0, -1, 4, 0}.bytes(64, 91, 5, 5),
		"512 without descriptor": shape{0, -1, 500, 0}.bytes(),
	}
}

func TestPatchOfNoPacket(t *testing.T) {
	for name, b := range noPackets() {
		if descAt(b) >= 0 {
			t.Fatal("a packet after all:", name)
		}
		s := New(2)
		h := put(t, s, b, 0, 1)
		notChanged(t, s, h, api.ErrForm)
		// More than one reference is told ahead of what the bytes are, and a stale handle ahead of both.
		kept(t, s, h)
		notChanged(t, s, h, api.ErrState)
		dropped(t, s, h, h)
		notChanged(t, s, h, api.ErrStale)
		notChanged(t, s, api.Handle{Slot: 0, Gen: 2}, api.ErrStale)
		if t.Failed() {
			t.Fatal(name)
		}
	}
}

// Each beginning of a packet without padding is one, with a descriptor, as long as that is there.
func TestPatchOfBeginnings(t *testing.T) {
	for _, f := range []shape{{0, -1, 5, 0}, {3, -1, 2, 0}, {0, 0, 2, 0}, {2, 3, 5, 0}, {15, 1, 0, 0}} {
		whole := f.bytes(65, 90, 5, 5)
		s := New(len(whole) + 1)
		for n := range len(whole) + 1 {
			h := put(t, s, whole[:n], n, 1)
			if n < f.descAt()+4 {
				notChanged(t, s, h, api.ErrForm)
				continue
			}
			changed(t, s, h, somePatch)
			has(t, s, h, patched(whole[:n], f.descAt(), somePatch))
		}
	}
}

func TestKeepAndDrop(t *testing.T) {
	s := New(3)
	g, h := put(t, s, row(1, 40), 0, 1), put(t, s, row(2, 50), 1, 1)
	for n := 2; n < 9; n++ {
		kept(t, s, h)
		if s.Refs(h) != n || s.Refs(g) != 1 || s.Free() != 1 {
			t.Error("kept", n, s.Refs(h), s.Refs(g), s.Free())
		}
		has(t, s, h, row(2, 50))
	}
	for n := 7; n > 0; n-- {
		dropped(t, s, h)
		if s.Refs(h) != n || s.Refs(g) != 1 || s.Free() != 1 {
			t.Error("dropped", n, s.Refs(h), s.Refs(g), s.Free())
		}
		if l := s.Slots(); !slices.Equal(l, []api.Slot{{Gen: 1, Refs: 1}, {Gen: 1, Refs: n}, {Gen: 1}}) {
			t.Error(n, l)
		}
		has(t, s, h, row(2, 50))
	}
	dropped(t, s, h)
	stale(t, s, h)
	has(t, s, g, row(1, 40))
	if l := s.Slots(); s.Free() != 2 || !slices.Equal(l, []api.Slot{{Gen: 1, Refs: 1}, {Gen: 2}, {Gen: 1}}) {
		t.Error(s.Free(), l)
	}
}

// Neither a Gen nor Refs goes round at 8 or 16 bits, and a patch is let in at one reference of so many.
func TestManyGensAndManyRefs(t *testing.T) {
	const many = 1<<16 + 3
	s := New(1)
	for g := range uint32(many) {
		dropped(t, s, put(t, s, nil, 0, g+1))
	}
	h := put(t, s, packet(), 0, many+1)
	for _, g := range []uint32{0, 1, 4, many, many + 2, many + 1 - 1<<8, many + 1 - 1<<16, many + 1 + 1<<16, many + 1 + 1<<31} {
		stale(t, s, api.Handle{Gen: g})
	}
	for n := 2; n < many; n++ {
		kept(t, s, h)
		if s.Refs(h) != n || s.Patch(h, somePatch) != api.ErrState {
			t.Fatal(n, s.Refs(h))
		}
	}
	has(t, s, h, packet())
	for range many - 2 {
		dropped(t, s, h)
	}
	changed(t, s, h, somePatch)
	dropped(t, s, h)
	stale(t, s, h)
}

func TestStrangeHandles(t *testing.T) {
	for _, n := range []int{1, 2, 3, 100} {
		fresh, some, whole := New(n), New(n), New(n)
		put(t, some, packet(), 0, 1)
		for k := range n {
			put(t, whole, packet(), k, 1)
		}
		for _, h := range strange(n) {
			stale(t, fresh, h)
			stale(t, some, h)
			stale(t, whole, h)
		}
	}
	most := New(1024)
	for k := range 1024 {
		put(t, most, packet(), k, 1)
	}
	for _, h := range []api.Handle{{}, {Slot: 1024, Gen: 1}, {Slot: -1, Gen: 1}, {Slot: 1023, Gen: 2}, {Slot: 1023}, {Slot: math.MaxInt, Gen: 1}, {Slot: math.MinInt, Gen: 1}} {
		stale(t, most, h)
	}
	changed(t, most, api.Handle{Slot: 1023, Gen: 1}, somePatch)
	has(t, most, api.Handle{Slot: 1023, Gen: 1}, patched(packet(), 12, somePatch))
}

// Gens are each slot's own: the Gen of another one does not count.
func TestGenOfAnotherSlot(t *testing.T) {
	s := New(3)
	dropped(t, s, put(t, s, packet(), 0, 1))
	dropped(t, s, put(t, s, packet(), 0, 2))
	g, h := put(t, s, packet(), 0, 3), put(t, s, packet(), 1, 1)
	stale(t, s, api.Handle{Slot: h.Slot, Gen: g.Gen})
	stale(t, s, api.Handle{Slot: g.Slot, Gen: h.Gen})
	stale(t, s, api.Handle{Slot: 2, Gen: 1})
}

// What is handed in is neither changed nor kept, its spare room neither.
func TestPutKeepsNothingOfItsBytes(t *testing.T) {
	for _, n := range []int{0, 1, 16, 511, 512} {
		s := New(1)
		mine := append(slices.Grow(packet(), 600), fill(600)...)[:n]
		before := slices.Clone(mine[:cap(mine)])
		h := put(t, s, mine, 0, 1)
		if n >= 16 {
			changed(t, s, h, somePatch)
		}
		now, _ := s.Bytes(h)
		if !bytes.Equal(mine[:cap(mine)], before) {
			t.Error("Put or Patch wrote into what was handed in", n)
		}
		clear(mine[:cap(mine)])
		has(t, s, h, now)
		if want := before[:n]; n < 16 && !bytes.Equal(now, want) {
			t.Error(now, want)
		}
	}
}

// What is refused is not written into either.
func TestPutRefusedWritesNothing(t *testing.T) {
	s := New(1)
	put(t, s, nil, 0, 1)
	for _, n := range []int{512, 513} {
		b := row(3, 700)
		notPut(t, s, b[:n], map[int]api.Errno{512: api.ErrFull, 513: api.ErrRange}[n])
		if !bytes.Equal(b, row(3, 700)) {
			t.Error("Put wrote", n)
		}
	}
}

// What is told is neither what is kept, nor what is told again; spare room neither.
func TestBytesIsNewMemory(t *testing.T) {
	for _, n := range []int{0, 1, 16, 17, 100, 511, 512} {
		b := append(packet(), fill(600)...)[:n]
		s := New(2)
		h := put(t, s, b, 0, 1)
		put(t, s, fill(512), 1, 1)
		x, _ := s.Bytes(h)
		y, _ := s.Bytes(h)
		whole := slices.Clone(y[:cap(y)])
		for i := range x[:cap(x)] {
			x[:cap(x)][i] = 55
		}
		_ = append(x, 66, 67)
		if !bytes.Equal(y, b) || !bytes.Equal(y[:cap(y)], whole) {
			t.Error("a write into an answer is seen in another one", n, y)
		}
		has(t, s, h, b)
		has(t, s, api.Handle{Slot: 1, Gen: 1}, fill(512))
		if n >= 16 {
			changed(t, s, h, somePatch)
			has(t, s, h, patched(b, 12, somePatch))
		}
		kept(t, s, h)
		dropped(t, s, h, h)
		put(t, s, row(1, 512), 0, 2)
		if !bytes.Equal(y, b) || !bytes.Equal(y[:cap(y)], whole) {
			t.Error("what was told was changed", n, y)
		}
	}
}

// What is told stays as whoever asked has left it.
func TestBytesBesideAPatch(t *testing.T) {
	s := New(1)
	h := put(t, s, packet(), 0, 1)
	x, _ := s.Bytes(h)
	x = append(x[:0], make([]byte, 600)...)
	changed(t, s, h, somePatch)
	has(t, s, h, patched(packet(), 12, somePatch))
	if !zeros(x) {
		t.Error("Patch wrote into an answer", x)
	}
}

func TestSlotsIsNewMemory(t *testing.T) {
	s := New(3)
	h := put(t, s, packet(), 0, 1)
	l, m := s.Slots(), s.Slots()
	kept(t, s, h)
	put(t, s, nil, 1, 1)
	dropped(t, s, h, h)
	old := []api.Slot{{Gen: 1, Refs: 1}, {Gen: 1}, {Gen: 1}}
	if !slices.Equal(l, old) || !slices.Equal(m, old) {
		t.Error("what was told was changed:", l, m)
	}
	for k := range l[:cap(l)] {
		l[:cap(l)][k] = api.Slot{Gen: 77, Refs: 88}
	}
	want := []api.Slot{{Gen: 2}, {Gen: 1, Refs: 1}, {Gen: 1}}
	if !slices.Equal(m, old) || !slices.Equal(s.Slots(), want) {
		t.Error("a write into an answer is seen:", m, s.Slots())
	}
	now := s.Slots()
	for k := range now {
		now[k] = api.Slot{Gen: 9}
	}
	put(t, s, nil, 0, 2)
	put(t, s, nil, 2, 1)
	notPut(t, s, nil, api.ErrFull)
}

func TestTwoStoresAreApart(t *testing.T) {
	a, b := New(2), New(2)
	h := put(t, a, packet(), 0, 1)
	stale(t, b, h)
	put(t, b, []byte{7}, 0, 1)
	put(t, b, row(1, 512), 1, 1)
	changed(t, a, h, somePatch)
	kept(t, a, h)
	has(t, a, h, patched(packet(), 12, somePatch))
	has(t, b, h, []byte{7})
	if a.Refs(h) != 2 || b.Refs(h) != 1 || a.Free() != 1 || b.Free() != 0 {
		t.Error(a.Refs(h), b.Refs(h), a.Free(), b.Free())
	}
	dropped(t, b, h)
	stale(t, b, h)
	has(t, a, h, patched(packet(), 12, somePatch))
}

// A nil Store, and one that New did not make, has no slot.
func TestNilStore(t *testing.T) {
	for _, s := range []*Store{nil, {}} {
		for range 2 {
			for _, n := range []int{513, 514, 1 << 17} {
				notPut(t, s, make([]byte, n), api.ErrRange)
			}
			notPut(t, s, nil, api.ErrFull)
			for _, n := range []int{0, 1, 17, 512} {
				notPut(t, s, make([]byte, n), api.ErrFull)
			}
			notPut(t, s, packet(), api.ErrFull)
			for _, h := range append(strange(1), api.Handle{Gen: 1}, api.Handle{Slot: 1, Gen: 1}) {
				stale(t, s, h)
			}
			if s.Free() != 0 || len(s.Slots()) != 0 {
				t.Error(s.Free(), s.Slots())
			}
		}
	}
}

// dice is a row of numbers that is the same each time.
type dice uint64

func (d *dice) below(n int) int {
	*d = *d*6364136223846793005 + 1442695040888963407
	return int(uint64(*d)>>33) % n
}

// pick is a handle that was told some time, or one like it, or a strange one.
func pick(d *dice, told, odd []api.Handle) api.Handle {
	if len(told) == 0 || d.below(12) == 0 {
		return odd[d.below(len(odd))]
	}
	// Mostly a young one, as the elder ones are all stale.
	h := told[max(0, len(told)-1-d.below(1+d.below(min(40, len(told)))))]
	switch d.below(25) {
	case 0:
		h.Gen++
	case 1:
		h.Gen--
	case 2:
		h.Slot++
	case 3:
		h.Slot--
	}
	return h
}

// thrown are a packet's bytes, mostly, or such with a bit changed, or cut, or any, or too many.
func thrown(d *dice) []byte {
	if d.below(12) == 0 {
		return row(d.below(500), d.below(700))
	}
	f := shape{d.below(3), d.below(4) - 1, d.below(8), d.below(5)}
	b := f.bytes(byte(d.below(256))&194, 90, byte(d.below(256)), byte(d.below(256)))
	if d.below(3) == 0 {
		b[d.below(len(b))] ^= 1 << d.below(8)
	}
	if d.below(6) == 0 {
		b = b[:d.below(len(b)+1)]
	}
	return b
}

// alike holds all that can be read of s against the model.
func alike(t *testing.T, s *Store, m *model, handles []api.Handle) {
	t.Helper()
	if got := s.Free(); got != len(m.free) {
		t.Fatalf("Free = %d, want %d", got, len(m.free))
	}
	if got, want := s.Slots(), m.slots(); !slices.Equal(got, want) {
		t.Fatalf("Slots = %v, want %v", got, want)
	}
	for _, h := range handles {
		if got := s.Refs(h); got != m.held[h] {
			t.Fatalf("Refs(%v) = %d, want %d", h, got, m.held[h])
		}
	}
	for h := range m.held {
		handles = append(slices.Clip(handles), h)
	}
	for _, h := range handles {
		got, err := s.Bytes(h)
		want, wantErr := m.bytes(h)
		if err != wantErr || !bytes.Equal(got, want) {
			t.Fatalf("Bytes(%v) = %v, %d, want %v, %d", h, got, err, want, wantErr)
		}
	}
}

// Whatever was called, in rows of calls, all is as the model has it behind each of them.
func TestRowsOfCalls(t *testing.T) {
	seen := map[string]int{}
	for seed, n := range []int{1, 2, 3, 4, 5, 8, 17, 40} {
		d := dice(seed + 12)
		s, m := New(n), newModel(n)
		odd := strange(n)
		var told []api.Handle
		for range 4000 {
			step(t, &d, s, m, &told, odd, seen)
			if t.Failed() {
				return
			}
			alike(t, s, m, append([]api.Handle{pick(&d, told, odd), {Slot: d.below(n), Gen: uint32(d.below(9))}}, told[max(0, len(told)-5):]...))
		}
		alike(t, s, m, append(told, odd...))
	}
	for _, what := range []string{"Put 0", "Put 5", "Put 6", "Patch 0", "Patch 1", "Patch 7", "Patch 11", "Keep 0", "Keep 7", "Drop 0", "Drop 7"} {
		if seen[what] < 200 {
			t.Error("too few:", what, seen[what])
		}
	}
}

// step makes one call, of the store and of the model, and counts what it answers.
func step(t *testing.T, d *dice, s *Store, m *model, told *[]api.Handle, odd []api.Handle, seen map[string]int) {
	t.Helper()
	h := pick(d, *told, odd)
	name, got, want := "", api.OK, api.OK
	switch k := d.below(100); {
	case k < 30:
		b := thrown(d)
		var g, wantG api.Handle
		g, got = s.Put(b)
		wantG, want = m.put(b)
		name = "Put"
		if g != wantG {
			t.Errorf("Put = %v, want %v", g, wantG)
		}
		if got == api.OK {
			*told = append(*told, g)
		}
		for i := range b {
			b[i] = 99
		}
	case k < 60:
		p := api.Patch{Seq: uint16(d.below(1 << 16)), Time: uint32(d.below(1<<31)) << 1, Ssrc: uint32(d.below(1<<31)) << 1, Frame: uint16(d.below(1 << 16))}
		name, got, want = "Patch", s.Patch(h, p), m.patch(h, p)
	case k < 72:
		name, got, want = "Keep", s.Keep(h), m.keep(h)
	default:
		name, got, want = "Drop", s.Drop(h), m.drop(h)
	}
	if got != want {
		t.Errorf("%s of %v = %d, want %d", name, h, got, want)
	}
	seen[fmt.Sprint(name, " ", int(got))]++
}

func ExampleStore_Put() {
	s := New(2)
	h, _ := s.Put([]byte{1, 2, 3})
	b, _ := s.Bytes(h)
	fmt.Println(h, b, s.Free(), s.Slots())
	// Output: {0 1} [1 2 3] 1 [{1 1} {1 0}]
}

func ExampleStore_Patch() {
	s := New(1)
	h, _ := s.Put([]byte{128, 96, 0, 1, 0, 0, 0, 2, 0, 0, 0, 3, 128 + 2, 90, 0, 4})
	s.Keep(h)
	fmt.Println(s.Patch(h, api.Patch{Seq: 5, Time: 6, Ssrc: 7, Frame: 8}) == api.ErrState)
	s.Drop(h)
	s.Patch(h, api.Patch{Seq: 5, Time: 6, Ssrc: 7, Frame: 8})
	fmt.Println(s.Bytes(h))
	// Output:
	// true
	// [128 96 0 5 0 0 0 6 0 0 0 7 128 90 0 8] sluicegate: error 0
}
