package arena

import (
	"fmt"
	"math"
	"slices"
	"testing"

	"sluicegate/api"
)

// model is an arena as the chapter's words have it, written apart from it: the free slots in a row of rising numbers, the others' references one by one.
type model struct {
	size int
	free []int
	gen  map[int]uint32
	held map[api.Handle]int
}

func newModel(n int) *model {
	m := &model{size: n, gen: map[int]uint32{}, held: map[api.Handle]int{}}
	for k := range n {
		m.free = append(m.free, k)
		m.gen[k] = 1
	}
	return m
}

func (m *model) take() (api.Handle, api.Errno) {
	if len(m.free) == 0 {
		return api.Handle{}, api.ErrFull
	}
	h := api.Handle{Slot: m.free[0], Gen: m.gen[m.free[0]]}
	m.free = m.free[1:]
	m.held[h] = 1
	return h, api.OK
}

func (m *model) keep(h api.Handle) api.Errno {
	if m.held[h] == 0 {
		return api.ErrStale
	}
	m.held[h]++
	return api.OK
}

func (m *model) drop(h api.Handle) api.Errno {
	if m.held[h] == 0 {
		return api.ErrStale
	}
	m.held[h]--
	if m.held[h] == 0 {
		delete(m.held, h)
		m.gen[h.Slot]++
		m.free = append(slices.Clone(m.free), h.Slot)
		slices.Sort(m.free)
	}
	return api.OK
}

func (m *model) slots() []api.Slot {
	var list []api.Slot
	for k := range m.size {
		g := m.gen[k]
		list = append(list, api.Slot{Gen: g, Refs: m.held[api.Handle{Slot: k, Gen: g}]})
	}
	return list
}

// alike holds all that can be read of a against the model.
func alike(t *testing.T, a *Arena, m *model, handles []api.Handle) {
	t.Helper()
	if got := a.Free(); got != len(m.free) {
		t.Fatalf("Free = %d, want %d", got, len(m.free))
	}
	if got, want := a.Slots(), m.slots(); !slices.Equal(got, want) {
		t.Fatalf("Slots = %v, want %v", got, want)
	}
	for _, h := range handles {
		if got := a.Refs(h); got != m.held[h] {
			t.Fatalf("Refs(%v) = %d, want %d", h, got, m.held[h])
		}
	}
}

// strange are handles that no arena of so many slots answers, or at most when it is old.
func strange(n int) []api.Handle {
	list := []api.Handle{{}}
	for _, k := range []int{-1, -2, -n, -n - 1, math.MinInt, math.MinInt + 1, n, n + 1, 1024, 1025, 4096, 1 << 31, 1 << 32, math.MaxInt} {
		if 0 <= k && k < n {
			continue
		}
		for _, g := range []uint32{0, 1, 2, math.MaxUint32} {
			list = append(list, api.Handle{Slot: k, Gen: g})
		}
	}
	for _, k := range []int{0, n / 2, n - 1} {
		for _, g := range []uint32{0, 1 << 16, 1 << 31, math.MaxUint32} {
			list = append(list, api.Handle{Slot: k, Gen: g})
		}
	}
	return list
}

// stale: nothing is done of a handle that is not live.
func stale(t *testing.T, a *Arena, h api.Handle) {
	t.Helper()
	free, slots := a.Free(), a.Slots()
	if err := a.Keep(h); err != api.ErrStale {
		t.Errorf("Keep(%v) = %d", h, err)
	}
	if err := a.Drop(h); err != api.ErrStale {
		t.Errorf("Drop(%v) = %d", h, err)
	}
	if n := a.Refs(h); n != 0 {
		t.Errorf("Refs(%v) = %d", h, n)
	}
	if a.Free() != free || !slices.Equal(a.Slots(), slots) {
		t.Errorf("%v changed %v to %v", h, slots, a.Slots())
	}
}

// full: nothing can be taken, and nothing is changed by that.
func full(t *testing.T, a *Arena) {
	t.Helper()
	slots := a.Slots()
	if h, err := a.Take(); err != api.ErrFull || h != (api.Handle{}) {
		t.Errorf("Take = %v, %d of a full one", h, err)
	}
	if a.Free() != 0 || !slices.Equal(a.Slots(), slots) {
		t.Errorf("Take changed %v to %v", slots, a.Slots())
	}
}

// taken is what Take answers, which must be this one.
func taken(t *testing.T, a *Arena, slot int, gen uint32) api.Handle {
	t.Helper()
	h, err := a.Take()
	if want := (api.Handle{Slot: slot, Gen: gen}); err != api.OK || h != want {
		t.Fatalf("Take = %v, %d, want %v", h, err, want)
	}
	return h
}

func dropped(t *testing.T, a *Arena, list ...api.Handle) {
	t.Helper()
	for _, h := range list {
		if err := a.Drop(h); err != api.OK {
			t.Fatalf("Drop(%v) = %d", h, err)
		}
	}
}

func kept(t *testing.T, a *Arena, list ...api.Handle) {
	t.Helper()
	for _, h := range list {
		if err := a.Keep(h); err != api.OK {
			t.Fatalf("Keep(%v) = %d", h, err)
		}
	}
}

// allTaken are the handles of all slots of a new arena of so many.
func allTaken(t *testing.T, n int) (*Arena, []api.Handle) {
	t.Helper()
	a := New(n)
	var list []api.Handle
	for k := range n {
		list = append(list, taken(t, a, k, 1))
	}
	return a, list
}

func TestNew(t *testing.T) {
	for _, c := range []struct{ n, slots int }{
		{math.MinInt, 1}, {-1024, 1}, {-1, 1}, {0, 1}, {1, 1}, {2, 2}, {3, 3}, {63, 63}, {64, 64}, {65, 65}, {255, 255}, {256, 256}, {257, 257},
		{1000, 1000}, {1023, 1023}, {1024, 1024}, {1025, 1024}, {5000, 1024}, {1 << 32, 1024}, {1<<32 + 5, 1024}, {math.MaxInt, 1024},
	} {
		a := New(c.n)
		if a.Free() != c.slots {
			t.Errorf("New(%d): Free = %d, want %d", c.n, a.Free(), c.slots)
		}
		if l := a.Slots(); !slices.Equal(l, slices.Repeat([]api.Slot{{Gen: 1}}, c.slots)) {
			t.Errorf("New(%d): Slots = %v", c.n, l)
		}
		for k := range c.slots {
			taken(t, a, k, 1)
			if a.Free() != c.slots-k-1 {
				t.Errorf("New(%d): Free = %d behind %d", c.n, a.Free(), k)
			}
		}
		full(t, a)
	}
}

// Of a new arena no handle is live, the next one that is told neither.
func TestNewHasNoLiveHandle(t *testing.T) {
	for _, n := range []int{1, 2, 7, 1024} {
		a := New(n)
		for k := -2; k < n+2; k++ {
			for g := range uint32(4) {
				stale(t, a, api.Handle{Slot: k, Gen: g})
			}
		}
	}
}

func TestTakeIsTheLeastFreeOne(t *testing.T) {
	a, h := allTaken(t, 6)
	dropped(t, a, h[4], h[1], h[3])
	taken(t, a, 1, 2)
	dropped(t, a, h[0])
	taken(t, a, 0, 2)
	taken(t, a, 3, 2)
	dropped(t, a, h[5], h[2])
	taken(t, a, 2, 2)
	taken(t, a, 4, 2)
	taken(t, a, 5, 2)
	full(t, a)
}

// Whichever one becomes free of all, or whichever two in whatever order, it is taken again.
func TestTakeWhereverOneIsFree(t *testing.T) {
	const n = 70
	a, h := allTaken(t, n)
	for k := range n {
		dropped(t, a, h[k])
		h[k] = taken(t, a, k, 2)
		full(t, a)
	}
	for k := range n {
		for j := range n {
			if j == k {
				continue
			}
			dropped(t, a, h[k], h[j])
			least, other := min(j, k), max(j, k)
			h[least] = taken(t, a, least, h[least].Gen+1)
			if a.Free() != 1 {
				t.Fatal(j, k, a.Free())
			}
			h[other] = taken(t, a, other, h[other].Gen+1)
			full(t, a)
		}
	}
}

// With every set of free slots of six.
func TestTakeOfEverySet(t *testing.T) {
	for set := range 1 << 6 {
		a, h := allTaken(t, 6)
		var free []int
		for k := 5; k >= 0; k-- {
			if set>>k&1 == 1 {
				dropped(t, a, h[k])
				free = append(free, k)
			}
		}
		slices.Sort(free)
		for i, k := range free {
			if a.Free() != len(free)-i {
				t.Fatal(set, a.Free())
			}
			taken(t, a, k, 2)
		}
		full(t, a)
	}
}

func TestTakeTheLastOfMost(t *testing.T) {
	a, h := allTaken(t, 1024)
	full(t, a)
	dropped(t, a, h[1023])
	taken(t, a, 1023, 2)
	full(t, a)
	dropped(t, a, h[0], h[1000])
	taken(t, a, 0, 2)
	taken(t, a, 1000, 2)
	full(t, a)
}

func TestKeepAndDrop(t *testing.T) {
	a := New(3)
	g, h := taken(t, a, 0, 1), taken(t, a, 1, 1)
	if a.Refs(g) != 1 || a.Refs(h) != 1 {
		t.Error("taken", a.Refs(g), a.Refs(h))
	}
	for n := 2; n < 9; n++ {
		kept(t, a, h)
		if a.Refs(h) != n || a.Refs(g) != 1 || a.Free() != 1 {
			t.Error("kept", n, a.Refs(h), a.Refs(g), a.Free())
		}
	}
	for n := 7; n > 0; n-- {
		dropped(t, a, h)
		if a.Refs(h) != n || a.Refs(g) != 1 || a.Free() != 1 {
			t.Error("dropped", n, a.Refs(h), a.Refs(g), a.Free())
		}
		if l := a.Slots(); !slices.Equal(l, []api.Slot{{Gen: 1, Refs: 1}, {Gen: 1, Refs: n}, {Gen: 1}}) {
			t.Error(n, l)
		}
	}
	dropped(t, a, h)
	stale(t, a, h)
	if l := a.Slots(); a.Free() != 2 || !slices.Equal(l, []api.Slot{{Gen: 1, Refs: 1}, {Gen: 2}, {Gen: 1}}) {
		t.Error(a.Free(), l)
	}
}

// A slot is free, and of the next Gen, just when it was dropped as often as it was taken and kept, in whatever order.
func TestGenOfWhatWasDroppedAsOften(t *testing.T) {
	a := New(2)
	taken(t, a, 0, 1)
	for round := range uint32(50) {
		h := taken(t, a, 1, round+1)
		keeps := int(round) % 7
		for range keeps {
			kept(t, a, h)
			dropped(t, a, h)
			kept(t, a, h)
		}
		for n := keeps; n >= 0; n-- {
			if s := a.Slots()[1]; s != (api.Slot{Gen: round + 1, Refs: n + 1}) {
				t.Fatal(round, n, s)
			}
			dropped(t, a, h)
		}
		stale(t, a, h)
		if s := a.Slots()[1]; s != (api.Slot{Gen: round + 2}) || a.Free() != 1 {
			t.Fatal(round, s, a.Free())
		}
	}
}

// Neither a Gen nor Refs goes round at 8, 16 or 17 bits.
func TestManyGensAndManyRefs(t *testing.T) {
	const many = 1<<17 + 3
	a := New(1)
	for g := range uint32(many) {
		dropped(t, a, taken(t, a, 0, g+1))
	}
	h := taken(t, a, 0, many+1)
	for _, g := range []uint32{0, 1, 4, many, many + 2, many + 1 - 1<<8, many + 1 - 1<<16, many + 1 - 1<<17, many + 1 + 1<<16, many + 1 + 1<<31} {
		stale(t, a, api.Handle{Gen: g})
	}
	for n := range many {
		if a.Refs(h) != n+1 {
			t.Fatal(n, a.Refs(h))
		}
		kept(t, a, h)
	}
	for range many {
		dropped(t, a, h)
	}
	if a.Refs(h) != 1 || a.Free() != 0 {
		t.Error(a.Refs(h), a.Free())
	}
	dropped(t, a, h)
	stale(t, a, h)
}

// A handle stays what it is when its slot is taken again, and again.
func TestSlotThatWasTakenAgain(t *testing.T) {
	a := New(2)
	old := taken(t, a, 0, 1)
	other := taken(t, a, 1, 1)
	dropped(t, a, old)
	stale(t, a, old)
	stale(t, a, api.Handle{Slot: 0, Gen: 2}) // of its Gen, but free
	young := taken(t, a, 0, 2)
	stale(t, a, old)
	stale(t, a, api.Handle{Slot: 0, Gen: 3})
	kept(t, a, young)
	if a.Refs(young) != 2 || a.Refs(old) != 0 || a.Refs(other) != 1 {
		t.Error(a.Refs(young), a.Refs(old), a.Refs(other))
	}
	dropped(t, a, young, young)
	for _, h := range []api.Handle{old, young, {Slot: 0, Gen: 3}} {
		stale(t, a, h)
	}
	if taken(t, a, 0, 3); a.Refs(old) != 0 || a.Refs(young) != 0 || a.Refs(other) != 1 {
		t.Error(a.Refs(old), a.Refs(young), a.Refs(other))
	}
}

func TestStrangeHandles(t *testing.T) {
	for _, n := range []int{1, 2, 3, 100, 1024} {
		fresh := New(n)
		some := New(n)
		kept(t, some, taken(t, some, 0, 1))
		whole, _ := allTaken(t, n)
		for _, h := range strange(n) {
			stale(t, fresh, h)
			stale(t, some, h)
			stale(t, whole, h)
		}
	}
}

// Gens are each slot's own: the Gen of another one does not count.
func TestGenOfAnotherSlot(t *testing.T) {
	a := New(3)
	dropped(t, a, taken(t, a, 0, 1))
	dropped(t, a, taken(t, a, 0, 2))
	g, h := taken(t, a, 0, 3), taken(t, a, 1, 1)
	stale(t, a, api.Handle{Slot: h.Slot, Gen: g.Gen})
	stale(t, a, api.Handle{Slot: g.Slot, Gen: h.Gen})
	if l := a.Slots(); !slices.Equal(l, []api.Slot{{Gen: 3, Refs: 1}, {Gen: 1, Refs: 1}, {Gen: 1}}) {
		t.Error(l)
	}
}

// What is told is neither what is kept, nor what is told again.
func TestSlotsIsNewMemory(t *testing.T) {
	a := New(3)
	h := taken(t, a, 0, 1)
	l, m := a.Slots(), a.Slots()
	kept(t, a, h)
	taken(t, a, 1, 1)
	dropped(t, a, h, h)
	old := []api.Slot{{Gen: 1, Refs: 1}, {Gen: 1}, {Gen: 1}}
	if !slices.Equal(l, old) || !slices.Equal(m, old) {
		t.Error("what was told was changed:", l, m)
	}
	now := a.Slots()
	for k := range l[:cap(l)] {
		l[:cap(l)][k] = api.Slot{Gen: 77, Refs: 88}
	}
	_ = append(now[:0:len(now)], api.Slot{Gen: 55})
	want := []api.Slot{{Gen: 2}, {Gen: 1, Refs: 1}, {Gen: 1}}
	if !slices.Equal(m, old) || !slices.Equal(a.Slots(), want) {
		t.Error("a write into an answer is seen:", m, a.Slots())
	}
	if a.Free() != 2 || a.Refs(api.Handle{Slot: 1, Gen: 1}) != 1 || a.Refs(api.Handle{Slot: 1, Gen: 77}) != 0 {
		t.Error(a.Free())
	}
	taken(t, a, 0, 2)
	taken(t, a, 2, 1)
	full(t, a)
}

func TestTwoArenasAreApart(t *testing.T) {
	a, b := New(2), New(2)
	h := taken(t, a, 0, 1)
	kept(t, a, h)
	stale(t, b, h)
	if b.Free() != 2 || !slices.Equal(b.Slots(), []api.Slot{{Gen: 1}, {Gen: 1}}) {
		t.Error(b.Free(), b.Slots())
	}
	dropped(t, b, taken(t, b, 0, 1))
	taken(t, b, 0, 2)
	if a.Refs(h) != 2 || a.Free() != 1 || !slices.Equal(a.Slots(), []api.Slot{{Gen: 1, Refs: 2}, {Gen: 1}}) {
		t.Error(a.Refs(h), a.Free(), a.Slots())
	}
}

// A nil Arena, and one that New did not make, has no slot.
func TestNilArena(t *testing.T) {
	for _, a := range []*Arena{nil, {}} {
		for range 3 {
			full(t, a)
			for _, h := range append(strange(1), api.Handle{Gen: 1}, api.Handle{Slot: 1, Gen: 1}) {
				stale(t, a, h)
			}
			if a.Free() != 0 || len(a.Slots()) != 0 {
				t.Error(a.Free(), a.Slots())
			}
		}
	}
}

// dice is a row of numbers that is the same each time.
type dice uint64

func (d *dice) below(n int) int {
	*d = *d*6364136223846793005 + 1442695040888963407
	return int(uint64(*d)>>33) % n
}

// pick is a handle that was told some time, or one like it, or a strange one.
func pick(d *dice, told, odd []api.Handle) api.Handle {
	if len(told) == 0 || d.below(10) == 0 {
		return odd[d.below(len(odd))]
	}
	// Mostly a young one, as the elder ones are all stale.
	h := told[max(0, len(told)-1-d.below(1+d.below(len(told))))]
	switch d.below(20) {
	case 0:
		h.Gen++
	case 1:
		h.Gen--
	case 2:
		h.Slot++
	case 3:
		h.Slot--
	}
	return h
}

// Whatever was called, in rows of calls, all is as the model has it behind each of them.
func TestRowsOfCalls(t *testing.T) {
	seen := map[string]int{}
	for seed, n := range []int{1, 2, 3, 4, 5, 8, 17, 64, 65, 200} {
		d := dice(seed + 11)
		a, m := New(n), newModel(n)
		odd := strange(n)
		var told []api.Handle
		for range 3000 {
			step(t, &d, a, m, &told, odd, seen)
			if t.Failed() {
				return
			}
			alike(t, a, m, append([]api.Handle{pick(&d, told, odd), {Slot: d.below(n), Gen: uint32(d.below(9))}}, told[max(0, len(told)-5):]...))
		}
		alike(t, a, m, append(told, odd...))
	}
	for _, what := range []string{"take", "take full", "keep", "keep stale", "drop", "drop stale"} {
		if seen[what] < 500 {
			t.Error("too few:", what, seen[what])
		}
	}
}

// step makes one call, of the arena and of the model, and counts which.
func step(t *testing.T, d *dice, a *Arena, m *model, told *[]api.Handle, odd []api.Handle, seen map[string]int) {
	t.Helper()
	h := pick(d, *told, odd)
	switch k := d.below(100); {
	case k < 35:
		got, err := a.Take()
		want, wantErr := m.take()
		if got != want || err != wantErr {
			t.Errorf("Take = %v, %d, want %v, %d", got, err, want, wantErr)
		}
		if err == api.OK {
			*told = append(*told, got)
			seen["take"]++
		} else {
			seen["take full"]++
		}
	case k < 60:
		err, want := a.Keep(h), m.keep(h)
		if err != want {
			t.Errorf("Keep(%v) = %d, want %d", h, err, want)
		}
		seen[named("keep", err)]++
	default:
		err, want := a.Drop(h), m.drop(h)
		if err != want {
			t.Errorf("Drop(%v) = %d, want %d", h, err, want)
		}
		seen[named("drop", err)]++
	}
}

func named(what string, err api.Errno) string {
	if err == api.OK {
		return what
	}
	return what + " stale"
}

func ExampleNew() {
	a := New(2)
	h, _ := a.Take()
	fmt.Println(h, a.Free(), a.Slots())
	// Output: {0 1} 1 [{1 1} {1 0}]
}

func ExampleArena_Drop() {
	a := New(2)
	h, _ := a.Take()
	a.Keep(h)
	a.Drop(h)
	fmt.Println(a.Refs(h))
	a.Drop(h)
	fmt.Println(a.Refs(h), a.Drop(h) == api.ErrStale, a.Slots())
	// Output:
	// 1
	// 0 true [{2 0} {1 0}]
}
