package history

import (
	"fmt"
	"math"
	"slices"
	"testing"

	"sluicegate/api"
)

// model is a history as the chapter's words have it, written apart from it: all entries that were pushed since it was empty, of which the last ones are kept.
type model struct {
	most int
	row  []api.Entry
}

func (m *model) kept() []api.Entry {
	return m.row[max(0, len(m.row)-m.most):]
}

func (m *model) all() []api.Entry {
	return slices.Clone(m.kept())
}

func (m *model) push(e api.Entry) (api.Entry, bool) {
	m.row = append(m.row, e)
	gone := len(m.row) - m.most - 1
	if gone < 0 {
		return api.Entry{}, false
	}
	return m.row[gone], true
}

func (m *model) find(seq uint16) (api.Entry, bool) {
	found, ok := api.Entry{}, false
	for _, e := range m.kept() {
		if e.Seq == seq {
			found, ok = e, true
		}
	}
	return found, ok
}

func (m *model) clear() []api.Entry {
	all := m.all()
	m.row = nil
	return all
}

// holds that all that can be read of a history is what the model says, twice: reading changes nothing.
func (m *model) holds(t *testing.T, h *History, more ...uint16) {
	t.Helper()
	all := m.all()
	seqs := append([]uint16{0, 1, math.MaxUint16}, more...)
	for _, e := range all {
		seqs = append(seqs, e.Seq, e.Seq+1)
	}
	// Those that went, too.
	for _, e := range m.row[max(0, len(m.row)-m.most-2):max(0, len(m.row)-m.most)] {
		seqs = append(seqs, e.Seq)
	}
	for range 2 {
		if l := h.All(); !slices.Equal(l, all) {
			t.Fatalf("All = %v, want %v", l, all)
		}
		for _, seq := range seqs {
			want, some := m.find(seq)
			if e, ok := h.Find(seq); e != want || ok != some {
				t.Fatalf("Find(%d) = %v, %v, want %v, %v of %v", seq, e, ok, want, some, all)
			}
		}
	}
}

// both is a history, and the model of one of as many entries.
type both struct {
	t *testing.T
	h *History
	m *model
}

func newBoth(t *testing.T, n int) both {
	t.Helper()
	b := both{t, New(n), &model{most: n}}
	b.m.holds(t, b.h)
	return b
}

func (b both) push(e api.Entry) (api.Entry, bool) {
	b.t.Helper()
	want, some := b.m.push(e)
	if x, ok := b.h.Push(e); x != want || ok != some {
		b.t.Fatalf("Push(%v) = %v, %v, want %v, %v", e, x, ok, want, some)
	}
	b.m.holds(b.t, b.h)
	return want, some
}

func (b both) clear() []api.Entry {
	b.t.Helper()
	want := b.m.clear()
	if l := b.h.Clear(); !slices.Equal(l, want) {
		b.t.Fatalf("Clear = %v, want %v", l, want)
	}
	b.m.holds(b.t, b.h)
	return want
}

// entry is the k-th of a row of entries no two of which are alike in any field, for k below 65,536.
func entry(k int) api.Entry {
	n := uint32(k)
	return api.Entry{
		Seq: uint16(3*k + 1),
		H:   api.Handle{Slot: k + 7, Gen: 5*n + 2},
		P:   api.Patch{Seq: uint16(7*k + 3), Time: 3000*n + 9, Ssrc: n ^ 0xC0000000, Frame: uint16(11*k + 4)},
	}
}

// numbered is entry(k), but with that Seq.
func numbered(seq uint16, k int) api.Entry {
	e := entry(k)
	e.Seq = seq
	return e
}

// odd are entries of that Seq with numbers at the edges in the other fields, and no two alike.
func odd(seq uint16) []api.Entry {
	list := []api.Entry{{}}
	for _, n := range []int{1, -1, 255, 256, 1 << 16, 1<<31 - 1, 1 << 31, 1 << 32, math.MinInt, math.MaxInt} {
		list = append(list, api.Entry{H: api.Handle{Slot: n}})
	}
	for _, n := range []uint32{1, 255, 256, 1 << 16, 1 << 31, math.MaxUint32} {
		list = append(list, api.Entry{H: api.Handle{Gen: n}}, api.Entry{P: api.Patch{Time: n}}, api.Entry{P: api.Patch{Ssrc: n}})
	}
	for _, n := range []uint16{1, 255, 256, 1 << 15, math.MaxUint16} {
		list = append(list, api.Entry{P: api.Patch{Seq: n}}, api.Entry{P: api.Patch{Frame: n}})
	}
	for i := range list {
		list[i].Seq = seq
	}
	return list
}

// dice throws the same numbers in every run.
type dice uint64

func (d *dice) throw(n int) int {
	*d = *d*6364136223846793005 + 1442695040888963407
	return int(*d>>33) % n
}

// sizes are those of which the rows of calls are made.
var sizes = []int{0, 1, 2, 3, 4, 5, 7, 8, 9, 16, 31, 32, 33, 63, 64}

func TestNew(t *testing.T) {
	for _, c := range []struct{ n, most int }{
		{math.MinInt, 0}, {math.MinInt + 1, 0}, {-1 << 32, 0}, {-65, 0}, {-64, 0}, {-2, 0}, {-1, 0}, {0, 0}, {1, 1}, {2, 2}, {3, 3},
		{31, 31}, {32, 32}, {62, 62}, {63, 63}, {64, 64}, {65, 64}, {66, 64}, {127, 64}, {128, 64}, {256, 64}, {1000, 64},
		{1 << 31, 64}, {1 << 32, 64}, {1<<32 + 5, 64}, {1 << 62, 64}, {math.MaxInt - 1, 64}, {math.MaxInt, 64},
	} {
		b := both{t, New(c.n), &model{most: c.most}}
		b.m.holds(t, b.h)
		if l := New(c.n).Clear(); len(l) != 0 {
			t.Errorf("New(%d): Clear = %v", c.n, l)
		}
		for k := range c.most {
			if e, ok := b.push(entry(k)); ok || e != (api.Entry{}) {
				t.Fatalf("New(%d): %v goes at %d", c.n, e, k)
			}
		}
		for k := range 3*c.most + 3 {
			if e, ok := b.push(entry(c.most + k)); !ok || e != entry(k) {
				t.Fatalf("New(%d): %v, %v goes at %d", c.n, e, ok, c.most+k)
			}
		}
	}
}

func TestEverySize(t *testing.T) {
	for n := 1; n <= api.MaxHistory; n++ {
		h := New(n)
		for k := range 5*n + 2 {
			e, ok := h.Push(entry(k))
			if ok != (k >= n) || ok && e != entry(k-n) || !ok && e != (api.Entry{}) {
				t.Fatal(n, k, e, ok)
			}
			all := h.All()
			if len(all) != min(k+1, n) || all[0] != entry(max(0, k+1-n)) || all[len(all)-1] != entry(k) {
				t.Fatal(n, k, all)
			}
		}
		if l := h.Clear(); len(l) != n || l[0] != entry(4*n+2) || l[n-1] != entry(5*n+1) || len(h.All()) != 0 {
			t.Fatal(n, l)
		}
	}
}

func TestPushFindAllAndClear(t *testing.T) {
	h := New(3)
	a := api.Entry{Seq: 100, H: api.Handle{Slot: 4, Gen: 2}, P: api.Patch{Seq: 8, Time: 9000, Ssrc: 0xC0000001, Frame: 3}}
	b := api.Entry{Seq: 101, H: api.Handle{Slot: 5, Gen: 2}, P: api.Patch{Seq: 9, Time: 12000, Ssrc: 0xC0000002, Frame: 4}}
	c := api.Entry{Seq: 102, H: api.Handle{Slot: 6, Gen: 3}, P: api.Patch{Seq: 10, Time: 15000, Ssrc: 0xC0000003, Frame: 5}}
	d := api.Entry{Seq: 103, H: api.Handle{Slot: 4, Gen: 4}, P: api.Patch{Seq: 11, Time: 18000, Ssrc: 0xC0000004, Frame: 6}}
	for i, e := range []api.Entry{a, b, c} {
		if x, ok := h.Push(e); ok || x != (api.Entry{}) {
			t.Error("goes", i, x, ok)
		}
	}
	for _, e := range []api.Entry{b, a, c, b} {
		if x, ok := h.Find(e.Seq); !ok || x != e {
			t.Error("Find", e.Seq, x, ok)
		}
	}
	for _, seq := range []uint16{0, 8, 9, 10, 99, 103, 65535} {
		if x, ok := h.Find(seq); ok || x != (api.Entry{}) {
			t.Error("Find", seq, x, ok)
		}
	}
	if l := h.All(); !slices.Equal(l, []api.Entry{a, b, c}) {
		t.Error("All", l)
	}
	if x, ok := h.Push(d); !ok || x != a {
		t.Error("Push", x, ok)
	}
	if x, ok := h.Find(100); ok || x != (api.Entry{}) {
		t.Error("found what is kept no more", x, ok)
	}
	if l := h.Clear(); !slices.Equal(l, []api.Entry{b, c, d}) {
		t.Error("Clear", l)
	}
	for _, e := range []api.Entry{a, b, c, d} {
		if x, ok := h.Find(e.Seq); ok || x != (api.Entry{}) {
			t.Error("behind Clear", e.Seq, x, ok)
		}
	}
	if l := h.All(); len(l) != 0 {
		t.Error("behind Clear", l)
	}
	if l := h.Clear(); len(l) != 0 {
		t.Error("a second Clear", l)
	}
	if x, ok := h.Push(a); ok || x != (api.Entry{}) || !slices.Equal(h.All(), []api.Entry{a}) {
		t.Error("Push behind Clear", x, ok, h.All())
	}
}

// A history that keeps none tells each entry that is pushed, whatever is in it.
func TestHistoryOfNone(t *testing.T) {
	for _, n := range []int{0, -1, -64, math.MinInt} {
		h := New(n)
		for _, e := range append(odd(0), append(odd(9), entry(1), entry(1), entry(2))...) {
			if x, ok := h.Push(e); !ok || x != e {
				t.Error(n, "Push", e, x, ok)
			}
			if x, ok := h.Find(e.Seq); ok || x != (api.Entry{}) {
				t.Error(n, "Find", x, ok)
			}
			if l := h.All(); len(l) != 0 {
				t.Error(n, "All", l)
			}
			if l := h.Clear(); len(l) != 0 {
				t.Error(n, "Clear", l)
			}
		}
	}
}

// Of those that are kept with one number, in whatever places, the last one that was pushed is found, and still when elder ones go.
func TestSameSeq(t *testing.T) {
	a, b, c := entry(1), entry(2), entry(3)
	for _, seq := range []uint16{0, 1, 255, 256, 0x7fff, 0x8000, math.MaxUint16} {
		a.Seq, b.Seq = seq, seq
		c.Seq = seq + 1
		h := New(3)
		find := func(want api.Entry, some bool) {
			t.Helper()
			if e, ok := h.Find(seq); e != want || ok != some {
				t.Errorf("Find(%d) = %v, %v, want %v, %v of %v", seq, e, ok, want, some, h.All())
			}
		}
		find(api.Entry{}, false)
		h.Push(a)
		find(a, true)
		h.Push(b)
		find(b, true)
		h.Push(c)
		find(b, true)
		if e, ok := h.Push(c); !ok || e != a {
			t.Error(e, ok)
		}
		find(b, true)
		if e, ok := h.Push(c); !ok || e != b {
			t.Error(e, ok)
		}
		find(api.Entry{}, false)
		h.Push(a)
		find(a, true)
	}
}

// Two of one number differ in one field alone, at the edges of it: the later one is told, whole.
func TestSameSeqOddFields(t *testing.T) {
	for _, seq := range []uint16{0, 77, math.MaxUint16} {
		list := odd(seq)
		for _, n := range []int{1, 2, 3, len(list), 64} {
			b := newBoth(t, n)
			for _, e := range list {
				b.push(e)
				if x, ok := b.h.Find(seq); !ok || x != e {
					t.Fatal(n, x, ok, e)
				}
			}
			slices.Reverse(list)
			for _, e := range list {
				b.push(e)
				if x, ok := b.h.Find(seq); !ok || x != e {
					t.Fatal(n, x, ok, e)
				}
			}
			b.clear()
		}
	}
}

// All entries of one number: the last one is found, and each goes in its turn.
func TestOneSeqAlone(t *testing.T) {
	for _, n := range sizes {
		b := newBoth(t, n)
		for k := range 4*n + 5 {
			if e, ok := b.push(numbered(6, k)); ok && e != numbered(6, k-n) {
				t.Fatal(n, k, e)
			}
			want := numbered(6, k)
			if e, ok := b.h.Find(6); n > 0 && (!ok || e != want) {
				t.Fatal(n, k, e, ok)
			}
		}
	}
}

// What is found by its Seq is no number of the handle or the patch, nor part of one.
func TestFindBySeqAlone(t *testing.T) {
	h := New(4)
	e := api.Entry{Seq: 0x1234, H: api.Handle{Slot: 21, Gen: 22}, P: api.Patch{Seq: 23, Time: 24, Ssrc: 25, Frame: 26}}
	h.Push(e)
	for seq := range 1 << 16 {
		x, ok := h.Find(uint16(seq))
		if want := seq == 0x1234; ok != want || ok && x != e || !ok && x != (api.Entry{}) {
			t.Fatal(seq, x, ok)
		}
	}
}

// A number of 0 is found when it was pushed, and not before: neither in places that were never taken nor in those that a Clear left.
func TestSeqAtTheEdges(t *testing.T) {
	for _, n := range []int{1, 2, 3, 63, 64} {
		for _, seq := range []uint16{0, math.MaxUint16} {
			b := newBoth(t, n)
			none := func() {
				t.Helper()
				if e, ok := b.h.Find(seq); ok || e != (api.Entry{}) {
					t.Fatal(n, seq, e, ok)
				}
			}
			none()
			e := numbered(seq, 5)
			b.push(e)
			if x, ok := b.h.Find(seq); !ok || x != e {
				t.Fatal(n, seq, x, ok)
			}
			for k := range n {
				b.push(numbered(1000+uint16(k), k))
			}
			none()
			b.push(api.Entry{Seq: seq})
			if x, ok := b.h.Find(seq); !ok || x != (api.Entry{Seq: seq}) {
				t.Fatal(n, seq, x, ok)
			}
			b.clear()
			none()
			b.push(numbered(1, 1))
			none()
		}
	}
}

// The zero entry is one like any other: it takes a place, it is found, and it is told that it goes.
func TestZeroEntries(t *testing.T) {
	h := New(3)
	for k := range 3 {
		if e, ok := h.Push(api.Entry{}); ok || e != (api.Entry{}) || len(h.All()) != k+1 {
			t.Fatal(k, e, ok, h.All())
		}
		if _, ok := h.Find(0); !ok {
			t.Fatal(k, "not found")
		}
	}
	for k := range 3 {
		if e, ok := h.Push(entry(k)); !ok || e != (api.Entry{}) {
			t.Fatal(k, e, ok)
		}
	}
	if _, ok := h.Find(0); ok {
		t.Error("found")
	}
	if e, ok := h.Push(api.Entry{}); !ok || e != entry(0) {
		t.Error(e, ok)
	}
	if l := h.Clear(); !slices.Equal(l, []api.Entry{entry(1), entry(2), {}}) {
		t.Error(l)
	}
}

// Entries that are alike are each one of their own.
func TestEntriesThatAreAlike(t *testing.T) {
	same, other := entry(5), entry(6)
	b := newBoth(t, 4)
	for _, e := range []api.Entry{same, same, other, same} {
		if _, ok := b.push(e); ok {
			t.Error("goes", e)
		}
	}
	for i, want := range []api.Entry{same, same, other, same} {
		if e, ok := b.push(entry(10 + i)); !ok || e != want {
			t.Error(i, e, ok)
		}
	}
}

// Wherever in the circle it is, and however many are kept: Clear tells them all, and none goes until as many are kept again.
func TestClearFromEverywhere(t *testing.T) {
	for n := 0; n <= 9; n++ {
		for before := range 3*n + 2 {
			for there := range n + 3 {
				b := newBoth(t, n)
				for k := range before {
					b.push(entry(k))
				}
				if l := b.clear(); len(l) != min(n, before) {
					t.Fatal(n, before, l)
				}
				for k := range there {
					if e, ok := b.push(entry(100 + k)); ok != (k >= n) || ok && e != entry(100+k-n) {
						t.Fatal(n, before, there, k, e, ok)
					}
				}
				if l := b.clear(); len(l) != min(n, there) || len(l) > 0 && l[len(l)-1] != entry(100+there-1) {
					t.Fatal(n, before, there, l)
				}
				if l := b.clear(); len(l) != 0 {
					t.Fatal(n, before, there, l)
				}
				for k := range 2*n + 1 {
					b.push(entry(200 + k))
				}
			}
		}
	}
}

// Cleared when it went round, again and again.
func TestFullAndClearedAgain(t *testing.T) {
	for _, n := range sizes {
		b := newBoth(t, n)
		for round := range 5 {
			for k := range n + round*(n/2+1) {
				b.push(entry(1000*round + k))
			}
			if l := b.clear(); len(l) != n {
				t.Fatal(n, round, len(l))
			}
			for range 2 {
				if l := b.clear(); len(l) != 0 {
					t.Fatal(n, round, l)
				}
			}
		}
	}
}

// Long rows of calls, whichever come behind one another, of few numbers and of many.
func TestRows(t *testing.T) {
	full, cleared, again := 0, 0, 0
	for _, n := range sizes {
		for seed := range 5 {
			d := dice(n*100 + seed)
			b := newBoth(t, n)
			numbers := []int{2, n + 1, 3*n + 2, 1 << 16}[d.throw(4)]
			list := odd(uint16(d.throw(numbers)))
			for k := range 6*n + 80 {
				if d.throw(2*n+9) == 0 {
					if len(b.clear()) == n {
						cleared++
					}
					continue
				}
				e := numbered(uint16(d.throw(numbers)), k)
				if d.throw(4) == 0 {
					e = list[d.throw(len(list))]
				}
				if _, ok := b.m.find(e.Seq); ok {
					again++
				}
				if _, ok := b.push(e); ok {
					full++
				}
				b.m.holds(t, b.h, uint16(d.throw(numbers)))
			}
		}
	}
	if full < 500 || cleared < 50 || again < 500 {
		t.Error("rows too tame", full, cleared, again)
	}
}

// Every row of nine calls, Push of one of two numbers or Clear, on small histories.
func TestEveryShortRow(t *testing.T) {
	const calls, rows = 9, 19683
	for n := 0; n <= 4; n++ {
		for row := range rows {
			b := newBoth(t, n)
			for k, rest := 0, row; k < calls; k, rest = k+1, rest/3 {
				if rest%3 == 2 {
					b.clear()
				} else {
					b.push(numbered(uint16(rest%3), k))
				}
			}
		}
	}
}

// Many times as many as are kept: what went leaves nothing behind.
func TestManyTimes(t *testing.T) {
	for _, n := range []int{1, 2, 3, 7, 63, 64} {
		h := New(n)
		for k := range 65536 + 3*n {
			e, ok := h.Push(numbered(uint16(k), k))
			if ok != (k >= n) || ok && e != numbered(uint16(k-n), k-n) {
				t.Fatal(n, k, e, ok)
			}
			eldest := max(0, k-n+1)
			if x, ok := h.Find(uint16(eldest)); !ok || x != numbered(uint16(eldest), eldest) {
				t.Fatal(n, k, x, ok)
			}
			if x, ok := h.Find(uint16(k)); !ok || x != numbered(uint16(k), k) {
				t.Fatal(n, k, x, ok)
			}
			for _, seq := range []int{k + 1, k - n} {
				if x, ok := h.Find(uint16(seq)); ok || x != (api.Entry{}) {
					t.Fatal(n, k, seq, x, ok)
				}
			}
		}
	}
}

// spoil writes into a list, and into its spare room.
func spoil(l []api.Entry) {
	l = l[:cap(l)]
	for i := range l {
		l[i] = entry(40000 + i)
	}
}

// What All tells is nobody else's: it is neither what is kept, nor what is told again.
func TestAllIsNewMemory(t *testing.T) {
	for _, before := range []int{1, 3, 4, 5, 6, 8} { // not full, full, and gone round
		h, m := New(5), &model{most: 5}
		for k := range before {
			h.Push(entry(k))
			m.push(entry(k))
		}
		x, y := h.All(), h.All()
		want := m.all()
		spoil(x)
		if !slices.Equal(y, want) {
			t.Error(before, "two answers share", y)
		}
		m.holds(t, h)
		for k := range 12 {
			h.Push(entry(50 + k))
			m.push(entry(50 + k))
			if !slices.Equal(y, want) {
				t.Error(before, "a later Push changed", y)
			}
			spoil(h.All())
			m.holds(t, h)
		}
		z := h.All()
		h.Clear()
		if !slices.Equal(z, m.all()) || !slices.Equal(y, want) {
			t.Error(before, "a later Clear changed", y, z)
		}
		m.clear()
		spoil(z)
		spoil(y)
		m.holds(t, h)
	}
}

// Nor is what Clear tells: neither what All told ahead of it, nor the places for what comes behind it.
func TestClearIsNewMemory(t *testing.T) {
	for _, before := range []int{0, 1, 3, 4, 5, 6, 8} {
		h, m := New(5), &model{most: 5}
		for k := range before {
			h.Push(entry(k))
			m.push(entry(k))
		}
		x, want := h.All(), m.all()
		y := h.Clear()
		m.clear()
		spoil(x)
		if !slices.Equal(y, want) {
			t.Error(before, "two answers share", y)
		}
		for k := range 12 {
			h.Push(entry(50 + k))
			m.push(entry(50 + k))
			if !slices.Equal(y, want) {
				t.Error(before, "a later Push changed", y)
			}
			m.holds(t, h)
		}
		spoil(y)
		m.holds(t, h)
		if z := h.Clear(); !slices.Equal(z, m.all()) {
			t.Error(before, z)
		}
		m.clear()
		spoil(h.Clear())
		m.holds(t, h)
		h.Push(entry(9))
		m.push(entry(9))
		m.holds(t, h)
	}
}

// Two histories have nothing in common, one that is a second of New(n) neither.
func TestTwoHistories(t *testing.T) {
	a, b, c := newBoth(t, 3), newBoth(t, 3), newBoth(t, 2)
	list := []both{a, b, c}
	d := dice(5)
	for k := range 600 {
		x := list[d.throw(3)]
		if d.throw(7) == 0 {
			x.clear()
		} else {
			x.push(numbered(uint16(d.throw(6)), k))
		}
		for _, y := range list {
			y.m.holds(t, y.h)
		}
	}
}

// A nil History keeps none, and tells what is pushed; one that New did not make is as one.
func TestNilHistory(t *testing.T) {
	for name, h := range map[string]*History{"nil": nil, "zero": {}} {
		for range 2 {
			for _, e := range []api.Entry{entry(3), {}, numbered(0, 8), numbered(math.MaxUint16, 9)} {
				if x, ok := h.Push(e); !ok || x != e {
					t.Error(name, "Push", e, x, ok)
				}
				if x, ok := h.Find(e.Seq); ok || x != (api.Entry{}) {
					t.Error(name, "Find", x, ok)
				}
			}
			if l := h.All(); len(l) != 0 {
				t.Error(name, "All", l)
			}
			if l := h.Clear(); len(l) != 0 {
				t.Error(name, "Clear", l)
			}
		}
	}
}

func ExampleHistory() {
	h := New(2)
	h.Push(api.Entry{Seq: 1})
	h.Push(api.Entry{Seq: 2})
	e, ok := h.Push(api.Entry{Seq: 3})
	fmt.Println(e.Seq, ok, len(h.All()))
	e, ok = h.Find(2)
	fmt.Println(e.Seq, ok)
	_, ok = h.Find(1)
	fmt.Println(ok)
	fmt.Println(len(h.Clear()), len(h.All()))
	// Output:
	// 1 true 2
	// 2 true
	// false
	// 2 0
}
