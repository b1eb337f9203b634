package resend

import (
	"fmt"
	"math"
	"slices"
	"testing"

	"sluicegate/api"
)

// asked is what pairs ask for, by the words of chapter 8, in numbers that do not go round by themselves.
func asked(pairs []api.Pair) []uint16 {
	var all []uint16
	for _, p := range pairs {
		all = append(all, p.Pid)
		for i, rest := 0, int(p.Blp); i < 16; i, rest = i+1, rest/2 {
			if rest%2 == 1 {
				all = append(all, uint16((int(p.Pid)+i+1)%65536))
			}
		}
	}
	return all
}

// sent is Of as the chapter's words have it, written apart from it: all of l with that number are laid out, and the last of them is taken.
func sent(l []api.Entry, pairs []api.Pair) ([]api.Entry, int) {
	var again []api.Entry
	missed := 0
	for _, s := range asked(pairs) {
		with := slices.DeleteFunc(slices.Clone(l), func(e api.Entry) bool { return e.Seq != s })
		if len(with) > 0 {
			again = append(again, with[len(with)-1])
		} else {
			missed++
		}
	}
	return again, missed
}

// gaps are the numbers that Missing asks for: those behind one of l and ahead of the next, and none if the next is not from 2 to 17 ahead.
func gaps(l []api.Entry) []uint16 {
	var all []uint16
	for i := range l {
		if i+1 == len(l) {
			break
		}
		var here []uint16
		far := 0
		for s := l[i].Seq; s != l[i+1].Seq; s++ {
			far++
			if far > 17 {
				break
			}
			here = append(here, s)
		}
		if far >= 2 && far <= 17 {
			all = append(all, here[1:]...)
		}
	}
	return all
}

// packed is nack.Pack by the words of chapter 8: it cuts the numbers into runs, and makes a pair of each.
func packed(l []uint16) []api.Pair {
	from := func(a, b uint16) int { return (int(b) - int(a) + 65536) % 65536 }
	var pairs []api.Pair
	for len(l) > 0 {
		p := api.Pair{Pid: l[0]}
		n := 1
		for ; n < len(l); n++ {
			step, far := from(l[n-1], l[n]), from(l[0], l[n])
			if step < 1 || step > 32767 || far < 1 || far > 16 {
				break
			}
			p.Blp += 1 << (far - 1)
		}
		pairs = append(pairs, p)
		l = l[n:]
	}
	return pairs
}

// full gives the list room behind its end, with entries in it that no call may touch.
func full(l []api.Entry) []api.Entry {
	room := append(slices.Clone(l), entry(9001), entry(9002))
	return room[:len(l)]
}

func fullPairs(l []api.Pair) []api.Pair {
	room := append(slices.Clone(l), api.Pair{Pid: 9001, Blp: 1}, api.Pair{Pid: 9002, Blp: 2})
	return room[:len(l)]
}

// checkOf holds one call against the model, twice, and that what is handed in is as it was, even when what was told is written into.
func checkOf(t *testing.T, l []api.Entry, pairs []api.Pair) {
	t.Helper()
	want, missed := sent(l, pairs)
	row, asks := full(l), fullPairs(pairs)
	for range 2 {
		again, n := Of(row, asks)
		if !slices.Equal(again, want) || n != missed {
			t.Fatalf("Of(%v, %v) = %v, %d, want %v, %d", l, pairs, again, n, want, missed)
		}
		spoil(again)
		if !slices.Equal(row[:len(l)+2], append(slices.Clone(l), entry(9001), entry(9002))) {
			t.Fatalf("Of(%v, %v) changed the entries: %v", l, pairs, row[:len(l)+2])
		}
		if !slices.Equal(asks[:len(pairs)+2], append(slices.Clone(pairs), api.Pair{Pid: 9001, Blp: 1}, api.Pair{Pid: 9002, Blp: 2})) {
			t.Fatalf("Of(%v, %v) changed the pairs: %v", l, pairs, asks[:len(pairs)+2])
		}
	}
}

// checkRow holds Numbers and Missing of a list against the model, as checkOf does.
func checkRow(t *testing.T, l []api.Entry) {
	t.Helper()
	var numbers []uint16
	for _, e := range l {
		numbers = append(numbers, e.Seq)
	}
	pairs := packed(gaps(l))
	row := full(l)
	for range 2 {
		got := Numbers(row)
		if !slices.Equal(got, numbers) {
			t.Fatalf("Numbers(%v) = %v, want %v", l, got, numbers)
		}
		spoil(got)
		asks := Missing(row)
		if !slices.Equal(asks, pairs) {
			t.Fatalf("Missing of %v = %v, want %v", numbers, asks, pairs)
		}
		spoil(asks)
		if !slices.Equal(row[:len(l)+2], append(slices.Clone(l), entry(9001), entry(9002))) {
			t.Fatalf("Numbers or Missing changed the entries: %v of %v", row[:len(l)+2], l)
		}
	}
}

// spoil writes other elements into a list and its spare room.
func spoil[T any](l []T) {
	clear(l[:cap(l)])
}

// entry is the k-th of a row of entries no two of which are alike in any field, for k below 65,536, and none with a field of 0.
func entry(k int) api.Entry {
	n := uint32(k)
	return api.Entry{
		Seq: uint16(3*k + 1),
		H:   api.Handle{Slot: k + 7, Gen: 5*n + 2},
		P:   api.Patch{Seq: uint16(7*k + 3), Time: 3000*n + 9, Ssrc: n ^ 0xC0000000, Frame: uint16(11*k + 4)},
	}
}

// entries have these numbers, and differ in all else.
func entries(numbers ...uint16) []api.Entry {
	var l []api.Entry
	for i, s := range numbers {
		e := entry(i + 1)
		e.Seq = s
		l = append(l, e)
	}
	return l
}

// rising are n entries whose numbers rise by one from that one on.
func rising(from uint16, n int) []api.Entry {
	var numbers []uint16
	for i := range n {
		numbers = append(numbers, from+uint16(i))
	}
	return entries(numbers...)
}

// edges are where a number may be taken wrongly: round 0, round the half, and what reaches over them.
func edges() []uint16 {
	return []uint16{
		0, 1, 2, 3, 15, 16, 17, 18, 19, 255, 256, 1000, 32750, 32766, 32767, 32768, 32769, 32770,
		50000, 65517, 65518, 65519, 65520, 65521, 65533, 65534, 65535,
	}
}

// dice throws the same numbers in every run.
type dice uint64

func (d *dice) throw(n int) int {
	*d = *d*6364136223846793005 + 1442695040888963407
	return int(*d>>33) % n
}

func TestOfByHand(t *testing.T) {
	a := api.Entry{Seq: 65535, H: api.Handle{Slot: 1, Gen: 2}, P: api.Patch{Seq: 3, Time: 4, Ssrc: 5, Frame: 6}}
	b := api.Entry{Seq: 0, H: api.Handle{Slot: 7, Gen: 8}, P: api.Patch{Seq: 9, Time: 10, Ssrc: 11, Frame: 12}}
	c := api.Entry{Seq: 1, H: api.Handle{Slot: 13, Gen: 14}, P: api.Patch{Seq: 15, Time: 16, Ssrc: 17, Frame: 18}}
	// d has c's number, and is another one.
	d := api.Entry{Seq: 1, H: api.Handle{Slot: 19, Gen: 20}, P: api.Patch{Seq: 21, Time: 22, Ssrc: 23, Frame: 24}}
	for _, x := range []struct {
		name   string
		l      []api.Entry
		pairs  []api.Pair
		again  []api.Entry
		missed int
	}{
		{"nothing", nil, nil, nil, 0},
		{"empty lists", []api.Entry{}, []api.Pair{}, nil, 0},
		{"no pairs", []api.Entry{a, b, c}, nil, nil, 0},
		{"no entries", nil, []api.Pair{{Pid: 1}, {Pid: 9, Blp: 3}}, nil, 4},
		{"no entries, the zero pair", nil, []api.Pair{{}}, nil, 1},
		{"one that is there", []api.Entry{a, b, c}, []api.Pair{{Pid: 0}}, []api.Entry{b}, 0},
		{"one that is not there", []api.Entry{a, c}, []api.Pair{{Pid: 0}}, nil, 1},
		{"round the end", []api.Entry{a, b, c}, []api.Pair{{Pid: 65535, Blp: 3}}, []api.Entry{a, b, c}, 0},
		{"in the order of the numbers", []api.Entry{c, b, a}, []api.Pair{{Pid: 65535, Blp: 3}}, []api.Entry{a, b, c}, 0},
		{"in the order of the pairs", []api.Entry{a, b, c}, []api.Pair{{Pid: 1}, {Pid: 65535}, {Pid: 0}}, []api.Entry{c, a, b}, 0},
		{"the last of two", []api.Entry{c, a, d}, []api.Pair{{Pid: 1}}, []api.Entry{d}, 0},
		{"the last of two, the other way", []api.Entry{d, a, c}, []api.Pair{{Pid: 1}}, []api.Entry{c}, 0},
		{"the last of three", []api.Entry{d, c, d}, []api.Pair{{Pid: 1}}, []api.Entry{d}, 0},
		{"twice, by pair and pair", []api.Entry{a, b}, []api.Pair{{Pid: 0}, {Pid: 0}}, []api.Entry{b, b}, 0},
		{"twice, by bit and Pid", []api.Entry{a, b}, []api.Pair{{Pid: 65535, Blp: 1}, {Pid: 0, Blp: 1}}, []api.Entry{a, b, b}, 1},
		{"twice not there", []api.Entry{a}, []api.Pair{{Pid: 5}, {Pid: 5}, {Pid: 4, Blp: 1}}, nil, 4},
		{"some of each", []api.Entry{a, c}, []api.Pair{{Pid: 65534, Blp: 15}}, []api.Entry{a, c}, 3},
	} {
		again, missed := Of(x.l, x.pairs)
		if !slices.Equal(again, x.again) || missed != x.missed {
			t.Errorf("%s: %v, %d, want %v, %d", x.name, again, missed, x.again, x.missed)
		}
		checkOf(t, x.l, x.pairs)
	}
}

func TestOfOfEachBit(t *testing.T) {
	for _, pid := range edges() {
		all := rising(pid-1, 19)
		blps := []uint16{0, 1, 2, 3, 32767, 32768, 32769, 65534, 65535}
		for i := range 16 {
			blps = append(blps, 1<<i, ^uint16(1<<i))
		}
		for _, blp := range blps {
			pairs := []api.Pair{{Pid: pid, Blp: blp}}
			checkOf(t, all, pairs)
			checkOf(t, nil, pairs)
			// Without each one of them, and with just that one.
			for i := range all {
				checkOf(t, slices.Delete(slices.Clone(all), i, i+1), pairs)
				checkOf(t, all[i:i+1], pairs)
			}
		}
	}
}

func TestOfCountsThoseThatAreNot(t *testing.T) {
	pairs := []api.Pair{{Pid: 65530, Blp: 65535}}
	for n := range 18 {
		again, missed := Of(rising(65530, n), pairs)
		if len(again) != n || missed != 17-n {
			t.Errorf("%d of 17 are there: %d sent, %d counted", n, len(again), missed)
		}
	}
	if again, missed := Of(nil, slices.Repeat(pairs, 1000)); len(again) != 0 || missed != 17000 {
		t.Errorf("of none: %d sent, %d counted", len(again), missed)
	}
	if again, missed := Of(rising(65530, 17), slices.Repeat(pairs, 1000)); len(again) != 17000 || missed != 0 {
		t.Errorf("of all: %d sent, %d counted", len(again), missed)
	}
}

func TestOfOfNumbersThatAreAlike(t *testing.T) {
	// Entries of one number, each of which differs from the next in one field alone.
	odd := []api.Entry{{}}
	for _, n := range []int{1, -1, 1 << 16, 1 << 32, math.MinInt, math.MaxInt} {
		odd = append(odd, api.Entry{H: api.Handle{Slot: n}})
	}
	for _, n := range []uint32{1, 1 << 16, math.MaxUint32} {
		odd = append(odd, api.Entry{H: api.Handle{Gen: n}}, api.Entry{P: api.Patch{Time: n}}, api.Entry{P: api.Patch{Ssrc: n}})
		odd = append(odd, api.Entry{P: api.Patch{Seq: uint16(n)}}, api.Entry{P: api.Patch{Frame: uint16(n)}})
	}
	for _, seq := range edges() {
		for i := range odd {
			odd[i].Seq = seq
		}
		for _, pairs := range [][]api.Pair{{{Pid: seq}}, {{Pid: seq - 1, Blp: 1}}, {{Pid: seq - 16, Blp: 32768}}, {{Pid: seq}, {Pid: seq}}} {
			for i := range odd {
				checkOf(t, odd[:i+1], pairs)
				checkOf(t, odd[i:], pairs)
				// One with another number behind them is no matter.
				checkOf(t, append(slices.Clone(odd[:i+1]), entries(seq+1, seq-1)...), pairs)
			}
		}
	}
}

func TestOfOfLongRows(t *testing.T) {
	d := dice(19)
	for range 3000 {
		from := edges()[d.throw(len(edges()))]
		var numbers []uint16
		for range d.throw(70) {
			numbers = append(numbers, from+uint16(d.throw(60)))
		}
		var pairs []api.Pair
		for range d.throw(12) {
			p := api.Pair{Pid: from + uint16(d.throw(70)) - 5}
			if d.throw(3) > 0 {
				p.Blp = uint16(d.throw(65536))
			}
			pairs = append(pairs, p)
		}
		checkOf(t, entries(numbers...), pairs)
	}
}

// A list may be longer than a history, and have every number many times.
func TestOfOfEveryNumber(t *testing.T) {
	var l []api.Entry
	for k := range 3 * 65536 {
		l = append(l, api.Entry{Seq: uint16(5 * k), H: api.Handle{Slot: k}})
	}
	var pairs []api.Pair
	for pid := range 65536 {
		pairs = append(pairs, api.Pair{Pid: uint16(pid), Blp: 32768})
	}
	again, missed := Of(l, pairs)
	if len(again) != 2*65536 || missed != 0 {
		t.Fatalf("%d sent, %d counted", len(again), missed)
	}
	last := make([]int, 65536)
	for k, e := range l {
		last[e.Seq] = k
	}
	for i, e := range again {
		s := uint16(i/2 + 16*(i%2))
		if e.Seq != s || e.H.Slot != last[s] {
			t.Fatalf("the %d-th is %v, want %d of %d", i, e, s, last[s])
		}
	}
}

func TestRowsByHand(t *testing.T) {
	for _, x := range []struct {
		numbers []uint16
		pairs   []api.Pair
	}{
		{nil, nil},
		{[]uint16{}, nil},
		{[]uint16{7}, nil},
		{[]uint16{7, 7}, nil},
		{[]uint16{7, 8, 9, 10}, nil},
		{[]uint16{65534, 65535, 0, 1}, nil},
		{[]uint16{7, 9}, []api.Pair{{Pid: 8}}},
		{[]uint16{7, 10}, []api.Pair{{Pid: 8, Blp: 1}}},
		{[]uint16{7, 23}, []api.Pair{{Pid: 8, Blp: 1<<14 - 1}}},
		{[]uint16{7, 24}, []api.Pair{{Pid: 8, Blp: 1<<15 - 1}}},
		{[]uint16{7, 25}, nil},
		{[]uint16{7, 7 + 32767}, nil},
		{[]uint16{7, 7 + 32768}, nil},
		{[]uint16{7, 6}, nil},
		{[]uint16{9, 7}, nil},
		{[]uint16{65535, 1}, []api.Pair{{Pid: 0}}},
		{[]uint16{65534, 0}, []api.Pair{{Pid: 65535}}},
		{[]uint16{65533, 1}, []api.Pair{{Pid: 65534, Blp: 3}}},
		// Gaps behind one another, packed together: up to 16 beyond the first one that is missing.
		{[]uint16{1, 3, 5, 7}, []api.Pair{{Pid: 2, Blp: 2 | 8}}},
		{[]uint16{1, 3, 17, 19}, []api.Pair{{Pid: 2, Blp: 1<<14 - 2 | 1<<15}}},
		{[]uint16{1, 3, 18, 20}, []api.Pair{{Pid: 2, Blp: 1<<15 - 2}, {Pid: 19}}},
		{[]uint16{1, 18, 35}, []api.Pair{{Pid: 2, Blp: 1<<15 - 1}, {Pid: 19, Blp: 1<<15 - 1}}},
		{[]uint16{65528, 65530, 4, 6}, []api.Pair{{Pid: 65529, Blp: 1<<10 - 2 | 1<<11}}},
		// Those without one between do not keep gaps apart, but distance does.
		{[]uint16{1, 3, 4, 5, 7}, []api.Pair{{Pid: 2, Blp: 8}}},
		{[]uint16{1, 3, 500, 502}, []api.Pair{{Pid: 2}, {Pid: 501}}},
		// A step back, and what is missing behind it once more.
		{[]uint16{5, 7, 5, 7}, []api.Pair{{Pid: 6}, {Pid: 6}}},
		{[]uint16{9, 11, 5, 7}, []api.Pair{{Pid: 10}, {Pid: 6}}},
		{[]uint16{5, 7, 7, 9}, []api.Pair{{Pid: 6, Blp: 2}}},
		// One that is too far ahead between.
		{[]uint16{5, 7, 40000, 40002, 1}, []api.Pair{{Pid: 6}, {Pid: 40001}}},
	} {
		l := entries(x.numbers...)
		if got := Numbers(l); !slices.Equal(got, x.numbers) {
			t.Errorf("Numbers = %v, want %v", got, x.numbers)
		}
		if got := Missing(l); !slices.Equal(got, x.pairs) {
			t.Errorf("Missing of %v = %v, want %v", x.numbers, got, x.pairs)
		}
		checkRow(t, l)
	}
}

func TestMissingOfEachStep(t *testing.T) {
	for _, one := range edges() {
		for ahead := range 65536 {
			// Every step near the edges, and each 61st elsewhere.
			if ahead > 40 && ahead < 65500 && (ahead < 32740 || ahead > 32790) && ahead%61 != 0 {
				continue
			}
			l := entries(one, one+uint16(ahead))
			checkRow(t, l)
			if n := len(asked(Missing(l))); ahead >= 2 && ahead <= 17 && n != ahead-1 || (ahead < 2 || ahead > 17) && n != 0 {
				t.Fatalf("%d and %d ahead: %d are asked for", one, ahead, n)
			}
		}
	}
}

func TestMissingOfPairsOfSteps(t *testing.T) {
	for _, one := range []uint16{0, 100, 32760, 65500, 65535} {
		for first := range 20 {
			for second := range 20 {
				checkRow(t, entries(one, one+uint16(first), one+uint16(first+second)))
				checkRow(t, entries(one, one+uint16(first), one+uint16(first-second)))
			}
		}
	}
}

func TestRowsThatAreLong(t *testing.T) {
	d := dice(7)
	for range 3000 {
		s := edges()[d.throw(len(edges()))]
		var numbers []uint16
		for range d.throw(60) {
			numbers = append(numbers, s)
			switch d.throw(8) {
			case 0:
				s -= uint16(d.throw(30))
			case 1:
				s += uint16(d.throw(65536))
			case 2, 3:
				s += uint16(d.throw(20))
			default:
				s += uint16(d.throw(4))
			}
		}
		checkRow(t, entries(numbers...))
	}
	checkRow(t, rising(60000, 20000))
}

// What was sent with some of it lost: all that lies between is asked for, and just that is sent again.
func TestWhatIsMissingIsSentAgain(t *testing.T) {
	all := rising(65520, 64)
	d := dice(3)
	for range 2000 {
		got := []api.Entry{all[0]}
		var lost []api.Entry
		for _, e := range all[1 : len(all)-1] {
			if d.throw(3) == 0 {
				lost = append(lost, e)
			} else {
				got = append(got, e)
			}
		}
		got = append(got, all[len(all)-1])
		again, missed := Of(all, Missing(got))
		if !slices.Equal(again, lost) || missed != 0 {
			t.Fatalf("lost %v, sent again %v, %d counted", lost, again, missed)
		}
	}
}

func TestAnswersHaveNothingInCommon(t *testing.T) {
	l, pairs := rising(1, 9), []api.Pair{{Pid: 1, Blp: 255}}
	one, _ := Of(l, pairs)
	two, _ := Of(l, pairs)
	spoil(one)
	if !slices.Equal(two, l) {
		t.Errorf("Of: one answer written into changes another: %v", two)
	}
	a, b := Numbers(l), Numbers(l)
	spoil(a)
	if !slices.Equal(b, []uint16{1, 2, 3, 4, 5, 6, 7, 8, 9}) {
		t.Errorf("Numbers: one answer written into changes another: %v", b)
	}
	gap := entries(1, 3, 5)
	x, y := Missing(gap), Missing(gap)
	spoil(x)
	if !slices.Equal(y, []api.Pair{{Pid: 2, Blp: 2}}) {
		t.Errorf("Missing: one answer written into changes another: %v", y)
	}
}

// What was told stays as it is when what was handed in is written into.
func TestNothingHandedInIsKept(t *testing.T) {
	l, pairs := entries(1, 3, 4), []api.Pair{{Pid: 1, Blp: 6}}
	want := slices.Clone(l)
	again, missed := Of(l, pairs)
	numbers, missing := Numbers(l), Missing(l)
	clear(l)
	clear(pairs)
	if !slices.Equal(again, want) || missed != 0 {
		t.Errorf("Of = %v, %d", again, missed)
	}
	if !slices.Equal(numbers, []uint16{1, 3, 4}) || !slices.Equal(missing, []api.Pair{{Pid: 2}}) {
		t.Errorf("Numbers = %v, Missing = %v", numbers, missing)
	}
}

func ExampleMissing() {
	got := []api.Entry{{Seq: 65534}, {Seq: 1}, {Seq: 2}, {Seq: 4}}
	fmt.Println(Numbers(got), Missing(got))
	// Output: [65534 1 2 4] [{65535 9}]
}

func ExampleOf() {
	again, missed := Of([]api.Entry{{Seq: 65535}, {Seq: 0}}, []api.Pair{{Pid: 65535, Blp: 3}})
	fmt.Println(len(again), missed)
	// Output: 2 1
}
