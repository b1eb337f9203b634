package ring

import (
	"fmt"
	"math"
	"slices"
	"testing"

	"sluicegate/api"
)

// model is a ring as the chapter's words have it, written apart from it: a list that begins with the first one, and how many it may be at most.
type model struct {
	most int
	list []api.Cell
}

func (m *model) push(c api.Cell) bool {
	if len(m.list) == m.most {
		return false
	}
	m.list = append(slices.Clone(m.list), c)
	return true
}

func (m *model) pop() (api.Cell, bool) {
	c, ok := m.head()
	if ok {
		m.list = slices.Clone(m.list[1:])
	}
	return c, ok
}

func (m *model) head() (api.Cell, bool) {
	if len(m.list) == 0 {
		return api.Cell{}, false
	}
	return m.list[0], true
}

// holds that all that can be read of a ring is what the model says, twice: reading takes nothing away.
func (m *model) holds(t *testing.T, r *Ring) {
	t.Helper()
	for range 2 {
		if n := r.Len(); n != len(m.list) {
			t.Fatalf("Len = %d, want %d", n, len(m.list))
		}
		if n := r.Room(); n != m.most-len(m.list) {
			t.Fatalf("Room = %d, want %d", n, m.most-len(m.list))
		}
		want, some := m.head()
		if c, ok := r.Head(); c != want || ok != some {
			t.Fatalf("Head = %v, %v, want %v, %v", c, ok, want, some)
		}
		if l := r.All(); !slices.Equal(l, m.list) {
			t.Fatalf("All = %v, want %v", l, m.list)
		}
	}
}

// both is a ring, and the model of one of as many cells.
type both struct {
	t *testing.T
	r *Ring
	m *model
}

func newBoth(t *testing.T, n int) both {
	t.Helper()
	b := both{t, New(n), &model{most: n}}
	b.m.holds(t, b.r)
	return b
}

func (b both) push(c api.Cell) bool {
	b.t.Helper()
	want := b.m.push(c)
	if ok := b.r.Push(c); ok != want {
		b.t.Fatalf("Push(%v) = %v, want %v", c, ok, want)
	}
	b.m.holds(b.t, b.r)
	return want
}

func (b both) pop() (api.Cell, bool) {
	b.t.Helper()
	want, some := b.m.pop()
	if c, ok := b.r.Pop(); c != want || ok != some {
		b.t.Fatalf("Pop = %v, %v, want %v, %v", c, ok, want, some)
	}
	b.m.holds(b.t, b.r)
	return want, some
}

// cell is the k-th of a row of cells no two of which are alike in any field.
func cell(k int) api.Cell {
	return api.Cell{Event: 3*k + 1, Epoch: -k - 1, H: api.Handle{Slot: k + 7, Gen: uint32(k)*5 + 2}}
}

// odd are cells with the numbers at the edges, and no two alike.
func odd() []api.Cell {
	list := []api.Cell{{}}
	for _, n := range []int{1, -1, 255, 256, 1 << 16, 1<<31 - 1, 1 << 31, 1 << 32, 1<<32 + 1, math.MinInt, math.MaxInt} {
		list = append(list, api.Cell{Event: n}, api.Cell{Epoch: n}, api.Cell{H: api.Handle{Slot: n}})
		list = append(list, api.Cell{Event: n, Epoch: n, H: api.Handle{Slot: n, Gen: math.MaxUint32}})
	}
	for _, g := range []uint32{1, 255, 1 << 16, 1 << 31, math.MaxUint32} {
		list = append(list, api.Cell{H: api.Handle{Gen: g}})
	}
	return list
}

// dice throws the same numbers in every run.
type dice uint64

func (d *dice) throw(n int) int {
	*d = *d*6364136223846793005 + 1442695040888963407
	return int(*d>>33) % n
}

// sizes are those of which the rows of calls are made.
var sizes = []int{1, 2, 3, 4, 5, 7, 8, 9, 16, 31, 64, 100, 255, 256}

func TestNew(t *testing.T) {
	for _, c := range []struct{ n, room int }{
		{math.MinInt, 1}, {math.MinInt + 1, 1}, {-1 << 32, 1}, {-257, 1}, {-256, 1}, {-2, 1}, {-1, 1}, {0, 1}, {1, 1}, {2, 2}, {3, 3},
		{127, 127}, {128, 128}, {254, 254}, {255, 255}, {256, 256}, {257, 256}, {258, 256}, {512, 256}, {1024, 256}, {9999, 256},
		{1 << 31, 256}, {1 << 32, 256}, {1<<32 + 5, 256}, {1 << 62, 256}, {math.MaxInt - 1, 256}, {math.MaxInt, 256},
	} {
		r, m := New(c.n), &model{most: c.room}
		m.holds(t, r)
		for k := range c.room {
			if !r.Push(cell(k)) || !m.push(cell(k)) {
				t.Fatalf("New(%d): no room for %d", c.n, k)
			}
			m.holds(t, r)
		}
		if r.Push(cell(c.room)) {
			t.Errorf("New(%d): room for %d more", c.n, c.room)
		}
		m.holds(t, r)
	}
}

func TestEverySize(t *testing.T) {
	for n := 1; n <= 256; n++ {
		r := New(n)
		for k := range n {
			if r.Len() != k || r.Room() != n-k || !r.Push(cell(k)) {
				t.Fatal(n, k, r.Len(), r.Room())
			}
		}
		if r.Push(cell(n)) || r.Len() != n || r.Room() != 0 {
			t.Fatal(n, r.Len(), r.Room())
		}
		for k := range n {
			if c, ok := r.Pop(); !ok || c != cell(k) || r.Len() != n-k-1 || r.Room() != k+1 {
				t.Fatal(n, k, c, ok, r.Len(), r.Room())
			}
		}
		if c, ok := r.Pop(); ok || c != (api.Cell{}) || r.Len() != 0 || r.Room() != n {
			t.Fatal(n, c, ok, r.Len(), r.Room())
		}
	}
}

func TestPushAndPop(t *testing.T) {
	r := New(3)
	a, b, c, d := cell(1), cell(2), cell(3), cell(4)
	if !r.Push(a) || !r.Push(b) || r.Len() != 2 || r.Room() != 1 {
		t.Error("two", r.Len(), r.Room())
	}
	if x, ok := r.Head(); !ok || x != a {
		t.Error("Head", x, ok)
	}
	if x, ok := r.Pop(); !ok || x != a || r.Len() != 1 || r.Room() != 2 {
		t.Error("Pop", x, ok, r.Len(), r.Room())
	}
	if x, ok := r.Head(); !ok || x != b {
		t.Error("Head", x, ok)
	}
	if !r.Push(c) || !r.Push(d) || r.Push(a) || !slices.Equal(r.All(), []api.Cell{b, c, d}) {
		t.Error("All", r.All())
	}
	for _, want := range []api.Cell{b, c, d} {
		if x, ok := r.Pop(); !ok || x != want {
			t.Error("Pop", x, ok, want)
		}
	}
	if x, ok := r.Pop(); ok || x != (api.Cell{}) || r.Len() != 0 || r.Room() != 3 {
		t.Error("Pop", x, ok, r.Len(), r.Room())
	}
}

// With as many cells as a ring may have, it goes round more than twice.
func TestRound(t *testing.T) {
	for _, n := range sizes {
		for _, there := range []int{1, 2, n/2 + 1, n - 1, n} {
			b := newBoth(t, n)
			for k := range min(max(there, 1), n) {
				b.push(cell(k))
			}
			next := len(b.m.list)
			for range 2*n + 3 {
				if c, ok := b.pop(); !ok || c != cell(next-len(b.m.list)-1) {
					t.Fatal(n, there, c, ok)
				}
				b.push(cell(next))
				next++
			}
		}
	}
}

// Wherever in the circle it is, and however many are there: what is pushed until it is full comes out in its order until it is empty.
func TestFullAndEmptiedFromEverywhere(t *testing.T) {
	for n := 1; n <= 12; n++ {
		for begin := range 2*n + 1 {
			for there := range n + 1 {
				b := newBoth(t, n)
				for k := range begin {
					b.push(cell(k))
					b.pop()
				}
				for k := range there {
					b.push(cell(begin + k))
				}
				for k := there; k <= n; k++ {
					if ok := b.push(cell(begin + k)); ok != (k < n) {
						t.Fatal(n, begin, there, k, ok)
					}
				}
				for k := range n + 1 {
					c, ok := b.pop()
					if ok != (k < n) || ok && c != cell(begin+k) {
						t.Fatal(n, begin, there, k, c, ok)
					}
				}
			}
		}
	}
}

// Full and emptied, again and again, with calls between that find no room and no cell.
func TestFullAndEmptiedAgain(t *testing.T) {
	for _, n := range sizes {
		b := newBoth(t, n)
		for round := range 4 {
			for k := range n {
				if !b.push(cell(round*1000 + k)) {
					t.Fatal(n, round, k)
				}
			}
			for k := range 3 {
				if b.push(cell(900 + k)) {
					t.Fatal(n, round, "room")
				}
			}
			for k := range n {
				if c, ok := b.pop(); !ok || c != cell(round*1000+k) {
					t.Fatal(n, round, k, c, ok)
				}
			}
			for range 3 {
				if c, ok := b.pop(); ok || c != (api.Cell{}) {
					t.Fatal(n, round, c, ok)
				}
			}
		}
	}
}

// Emptied but for some, and full again: room is what was taken away, no more.
func TestRoomOfWhatWasTakenAway(t *testing.T) {
	const n = 20
	b := newBoth(t, n)
	next := 0
	for away := range n + 1 {
		for range away {
			b.pop()
		}
		pushed := 0
		for b.push(cell(next)) {
			next++
			pushed++
		}
		want := away
		if away == 0 {
			want = n // it was empty at first
		}
		if pushed != want {
			t.Fatal(away, pushed, want)
		}
	}
}

// The least ring holds one.
func TestRingOfOne(t *testing.T) {
	b := newBoth(t, 1)
	for k := range 10 {
		if !b.push(cell(k)) || b.push(cell(k+100)) {
			t.Fatal(k)
		}
		if c, ok := b.pop(); !ok || c != cell(k) {
			t.Fatal(k, c, ok)
		}
		if c, ok := b.pop(); ok || c != (api.Cell{}) {
			t.Fatal(k, c, ok)
		}
	}
}

// A cell is kept whole, whatever numbers it has, the zero cell too.
func TestOddCells(t *testing.T) {
	list := odd()
	for _, n := range []int{1, 2, 5, len(list), 256} {
		b := newBoth(t, n)
		for i, c := range list {
			if !b.push(c) {
				t.Fatal(n, i, "no room")
			}
			if len(b.m.list) == n {
				b.pop()
			}
		}
		for i := len(list) - len(b.m.list); i < len(list); i++ {
			if c, ok := b.pop(); !ok || c != list[i] {
				t.Fatal(n, c, ok, list[i])
			}
		}
	}
}

// The zero cell is one like any other: it takes room, and it is told that it is there.
func TestZeroCells(t *testing.T) {
	r := New(3)
	for k := range 3 {
		if !r.Push(api.Cell{}) || r.Len() != k+1 || r.Room() != 2-k {
			t.Fatal(k, r.Len(), r.Room())
		}
	}
	if r.Push(api.Cell{}) || len(r.All()) != 3 {
		t.Error("more", r.All())
	}
	for k := range 3 {
		if c, ok := r.Head(); !ok || c != (api.Cell{}) {
			t.Error("Head", k, c, ok)
		}
		if c, ok := r.Pop(); !ok || c != (api.Cell{}) || r.Len() != 2-k {
			t.Error("Pop", k, c, ok, r.Len())
		}
	}
	if _, ok := r.Pop(); ok {
		t.Error("Pop of none")
	}
}

// Cells that are alike are each one of their own.
func TestCellsThatAreAlike(t *testing.T) {
	same, other := cell(5), cell(6)
	b := newBoth(t, 4)
	for _, c := range []api.Cell{same, same, other, same} {
		b.push(c)
	}
	if b.push(same) {
		t.Error("room")
	}
	b.pop()
	b.push(same)
	for i, want := range []api.Cell{same, other, same, same} {
		if c, ok := b.pop(); !ok || c != want {
			t.Error(i, c, ok)
		}
	}
	if _, ok := b.pop(); ok {
		t.Error("more than were pushed")
	}
}

// Long rows of calls, whichever come behind one another.
func TestRows(t *testing.T) {
	full, empty, round := 0, 0, 0
	for _, n := range sizes {
		for seed := range 6 {
			d := dice(n*100 + seed)
			b := newBoth(t, n)
			pushes := 1 + d.throw(9) // of ten calls, until the next change
			list := odd()
			for k := range 8*n + 60 {
				if d.throw(n+5) == 0 {
					pushes = 1 + d.throw(9)
				}
				if d.throw(10) >= pushes {
					if _, ok := b.pop(); !ok {
						empty++
					}
					continue
				}
				c := cell(k)
				if d.throw(4) == 0 {
					c = list[d.throw(len(list))]
				}
				if !b.push(c) {
					full++
				}
				round = max(round, k/n)
			}
		}
	}
	if full < 50 || empty < 50 || round < 3 {
		t.Error("rows too tame", full, empty, round)
	}
}

// Every row of eleven calls of Push and Pop, on small rings.
func TestEveryShortRow(t *testing.T) {
	const calls = 11
	for n := 1; n <= 4; n++ {
		for row := range 1 << calls {
			b := newBoth(t, n)
			for k := range calls {
				if row>>k&1 == 1 {
					b.push(cell(k))
				} else {
					b.pop()
				}
			}
		}
	}
}

// A Push without room changes nothing: neither what is there nor what comes later.
func TestPushWithoutRoom(t *testing.T) {
	for _, n := range sizes {
		for _, begin := range []int{0, 1, n / 2, n - 1} {
			b := newBoth(t, n)
			for range begin {
				b.push(cell(99))
				b.pop()
			}
			for k := range n {
				b.push(cell(k))
			}
			for k := range n + 2 {
				if b.r.Push(cell(500+k)) || b.r.Push(api.Cell{}) || b.r.Push(cell(0)) {
					t.Fatal(n, begin, "room")
				}
				b.m.holds(t, b.r)
			}
			for k := range n {
				if c, ok := b.pop(); !ok || c != cell(k) {
					t.Fatal(n, begin, k, c, ok)
				}
			}
		}
	}
}

// Pop and Head of none change nothing either: neither the room nor where the next cell comes.
func TestPopAndHeadOfNone(t *testing.T) {
	for _, n := range sizes {
		for _, begin := range []int{0, 1, n / 2, n - 1, n} {
			b := newBoth(t, n)
			for k := range begin {
				b.push(cell(k))
				b.pop()
			}
			for range 2*n + 1 {
				if c, ok := b.r.Pop(); ok || c != (api.Cell{}) {
					t.Fatal("Pop", n, begin, c, ok)
				}
				if c, ok := b.r.Head(); ok || c != (api.Cell{}) {
					t.Fatal("Head", n, begin, c, ok)
				}
			}
			b.m.holds(t, b.r)
			for k := range n {
				if !b.push(cell(40 + k)) {
					t.Fatal(n, begin, k)
				}
			}
			if b.push(cell(1)) {
				t.Fatal(n, begin, "room")
			}
		}
	}
}

// What All tells is nobody else's: it is neither what is kept, nor what is told again.
func TestAllIsNewMemory(t *testing.T) {
	for _, begin := range []int{0, 1, 3, 4} { // of one piece, and of two
		r, m := New(5), &model{most: 5}
		for range begin {
			r.Push(cell(77))
			r.Pop()
		}
		for k := range 4 {
			r.Push(cell(k))
			m.push(cell(k))
		}
		x, y := r.All(), r.All()
		spoil(x)
		if !slices.Equal(y, m.list) {
			t.Error(begin, "two answers share", y)
		}
		m.holds(t, r)
		later := func() {
			if !slices.Equal(y, []api.Cell{cell(0), cell(1), cell(2), cell(3)}) {
				t.Error(begin, "a later call changed", y)
			}
		}
		r.Push(cell(4))
		m.push(cell(4))
		later()
		spoil(y[len(y):])
		m.holds(t, r)
		for k := range 7 {
			r.Pop()
			m.pop()
			later()
			r.Push(cell(10 + k))
			m.push(cell(10 + k))
			later()
			m.holds(t, r)
		}
		for range 5 {
			spoil(r.All())
			m.holds(t, r)
			r.Pop()
			m.pop()
		}
		spoil(r.All())
		m.holds(t, r)
		later()
		if r.Push(cell(1)); r.All()[0] != cell(1) {
			t.Error(begin, r.All())
		}
	}
}

// spoil writes into a list, and into its spare room.
func spoil(l []api.Cell) {
	l = l[:cap(l)]
	for i := range l {
		l[i] = cell(-1000 - i)
	}
}

// Two rings have nothing in common, one that is a second of New(n) neither.
func TestTwoRings(t *testing.T) {
	a, b, c := newBoth(t, 3), newBoth(t, 3), newBoth(t, 2)
	rings := []both{a, b, c}
	d := dice(5)
	for k := range 500 {
		x := rings[d.throw(3)]
		if d.throw(2) == 0 {
			x.push(cell(k))
		} else {
			x.pop()
		}
		for _, y := range rings {
			y.m.holds(t, y.r)
		}
	}
}

// A nil Ring has neither cells nor room; one that New did not make is as one.
func TestNilRing(t *testing.T) {
	for name, r := range map[string]*Ring{"nil": nil, "zero": {}} {
		for range 2 {
			if r.Push(cell(1)) || r.Push(api.Cell{}) {
				t.Error(name, "Push")
			}
			if c, ok := r.Pop(); ok || c != (api.Cell{}) {
				t.Error(name, "Pop", c, ok)
			}
			if c, ok := r.Head(); ok || c != (api.Cell{}) {
				t.Error(name, "Head", c, ok)
			}
			if n := r.Len(); n != 0 {
				t.Error(name, "Len", n)
			}
			if n := r.Room(); n != 0 {
				t.Error(name, "Room", n)
			}
			if l := r.All(); len(l) != 0 {
				t.Error(name, "All", l)
			}
		}
	}
}

func ExampleRing() {
	r := New(2)
	fmt.Println(r.Push(api.Cell{Event: 1}), r.Push(api.Cell{Event: 2}), r.Push(api.Cell{Event: 3}))
	c, ok := r.Pop()
	fmt.Println(c.Event, ok, r.Len(), r.Room())
	c, ok = r.Head()
	fmt.Println(c.Event, ok, len(r.All()))
	// Output:
	// true true false
	// 1 true 1 1
	// 2 true 1
}
