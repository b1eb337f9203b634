package nack

import (
	"fmt"
	"slices"
	"testing"

	"sluicegate/api"
)

// edges are where a number may be taken wrongly: round 0, round the half, and what reaches over them.
func edges() []uint16 {
	return []uint16{
		0, 1, 2, 15, 16, 17, 18, 255, 256, 1000, 32751, 32752, 32766, 32767, 32768, 32769,
		50000, 65518, 65519, 65520, 65521, 65533, 65534, 65535,
	}
}

// asked is what one pair asks for, by the chapter's words, in numbers that do not go round by themselves.
func asked(p api.Pair) []uint16 {
	l := []uint16{p.Pid}
	rest := int(p.Blp)
	for i := 0; i < 16; i++ {
		if rest%2 == 1 {
			l = append(l, uint16((int(p.Pid)+i+1)%65536))
		}
		rest /= 2
	}
	return l
}

func allAsked(l []api.Pair) []uint16 {
	var all []uint16
	for _, p := range l {
		all = append(all, asked(p)...)
	}
	return all
}

// isAhead and beyond are said here apart from package serial and from the way numbers of 16 bits go round.
func isAhead(a, b uint16) bool {
	d := beyond(a, b)
	return d > 0 && d < 32768
}

func beyond(a, b uint16) int {
	return (int(a) - int(b) + 65536) % 65536
}

// packed cuts a list into the runs of the chapter, then makes a pair of each.
func packed(l []uint16) []api.Pair {
	var pairs []api.Pair
	for len(l) > 0 {
		n := 1
		for n < len(l) && isAhead(l[n], l[n-1]) && beyond(l[n], l[0]) >= 1 && beyond(l[n], l[0]) <= 16 {
			n++
		}
		sum := 0
		for _, s := range l[1:n] {
			sum += []int{1, 2, 4, 8, 16, 32, 64, 128, 256, 512, 1024, 2048, 4096, 8192, 16384, 32768}[beyond(s, l[0])-1]
		}
		pairs = append(pairs, api.Pair{Pid: l[0], Blp: uint16(sum)})
		l = l[n:]
	}
	return pairs
}

// numbers are n numbers that look like chance, the same for the same seed.
func numbers(seed uint32, n int) []uint32 {
	l := make([]uint32, n)
	for i := range l {
		seed = seed*1664525 + 1013904223
		l[i] = seed >> 8
	}
	return l
}

func checkExpand(t *testing.T, l []api.Pair, want []uint16) {
	t.Helper()
	if got := Expand(l); !slices.Equal(got, want) {
		t.Errorf("Expand(%v) = %v, want %v", l, got, want)
	}
}

// checkHas holds Has of every number there is against a list.
func checkHas(t *testing.T, l []api.Pair, want []uint16) {
	t.Helper()
	var is [65536]bool
	for _, s := range want {
		is[s] = true
	}
	for s := range 65536 {
		if got := Has(l, uint16(s)); got != is[s] {
			t.Errorf("Has(%v, %d) = %v", l, s, got)
		}
	}
}

func checkPack(t *testing.T, l []uint16, want []api.Pair) {
	t.Helper()
	got := Pack(l)
	if !slices.Equal(got, want) {
		t.Errorf("Pack(%v) = %v, want %v", l, got, want)
	}
	if again := Expand(got); !slices.Equal(again, l) {
		t.Errorf("Expand of Pack(%v) = %v", l, again)
	}
}

func TestExpandAndHas(t *testing.T) {
	for _, x := range []struct {
		l    []api.Pair
		want []uint16
	}{
		{nil, nil},
		{[]api.Pair{}, nil},
		{[]api.Pair{{}}, []uint16{0}},
		{[]api.Pair{{Pid: 9}}, []uint16{9}},
		{[]api.Pair{{Pid: 65535}}, []uint16{65535}},
		{[]api.Pair{{Pid: 9, Blp: 1}}, []uint16{9, 10}},
		{[]api.Pair{{Pid: 9, Blp: 2}}, []uint16{9, 11}},
		{[]api.Pair{{Pid: 9, Blp: 1 << 15}}, []uint16{9, 25}},
		{[]api.Pair{{Pid: 9, Blp: 1 | 1<<4 | 1<<15}}, []uint16{9, 10, 14, 25}},
		{[]api.Pair{{Pid: 100, Blp: 65535}}, []uint16{100, 101, 102, 103, 104, 105, 106, 107, 108, 109, 110, 111, 112, 113, 114, 115, 116}},
		// Over the end of all numbers.
		{[]api.Pair{{Pid: 65535, Blp: 1}}, []uint16{65535, 0}},
		{[]api.Pair{{Pid: 65535, Blp: 1 << 15}}, []uint16{65535, 15}},
		{[]api.Pair{{Pid: 65519, Blp: 1 << 15}}, []uint16{65519, 65535}},
		{[]api.Pair{{Pid: 65520, Blp: 3 << 14}}, []uint16{65520, 65535, 0}},
		{[]api.Pair{{Pid: 65533, Blp: 15}}, []uint16{65533, 65534, 65535, 0, 1}},
		// Pairs stay in their order, and tell what they tell twice.
		{[]api.Pair{{Pid: 20, Blp: 1}, {Pid: 5, Blp: 4}, {Pid: 65535}}, []uint16{20, 21, 5, 8, 65535}},
		{[]api.Pair{{Pid: 5, Blp: 3}, {Pid: 6, Blp: 1}, {Pid: 5, Blp: 3}}, []uint16{5, 6, 7, 6, 7, 5, 6, 7}},
		{[]api.Pair{{}, {}, {}}, []uint16{0, 0, 0}},
		{[]api.Pair{{Pid: 0, Blp: 32768}, {Pid: 32768, Blp: 32768}}, []uint16{0, 16, 32768, 32784}},
	} {
		checkExpand(t, x.l, x.want)
		checkHas(t, x.l, x.want)
	}
}

func TestEachBitAlone(t *testing.T) {
	for _, pid := range edges() {
		for i := range 16 {
			l := []api.Pair{{Pid: pid, Blp: 1 << i}}
			want := uint16((int(pid) + i + 1) % 65536)
			checkExpand(t, l, []uint16{pid, want})
			for k := -40; k <= 40; k++ {
				s := uint16((int(pid) + k + 65536) % 65536)
				if got := Has(l, s); got != (k == 0 || k == i+1) {
					t.Errorf("Has(%v, %d) = %v", l, s, got)
				}
			}
			checkPack(t, []uint16{pid, want}, l)
		}
	}
}

func TestEveryBlp(t *testing.T) {
	for blp := range 65536 {
		pid := edges()[blp%len(edges())]
		p := api.Pair{Pid: pid, Blp: uint16(blp)}
		want := asked(p)
		checkExpand(t, []api.Pair{p}, want)
		checkPack(t, want, []api.Pair{p})
		for k := -2; k <= 19; k++ {
			s := uint16((int(pid) + k + 65536) % 65536)
			if got := Has([]api.Pair{p}, s); got != slices.Contains(want, s) {
				t.Errorf("Has(%v, %d) = %v", p, s, got)
			}
		}
	}
}

func TestEveryPid(t *testing.T) {
	for pid := range 65536 {
		for _, blp := range []uint16{0, 65535, 32769, 21845} {
			l := []api.Pair{{Pid: uint16(pid), Blp: blp}}
			checkExpand(t, l, asked(l[0]))
			checkPack(t, asked(l[0]), l)
		}
	}
}

// All numbers for some pairs whose bits reach over each end, so that half a round away nothing is asked for.
func TestHasOfAllNumbers(t *testing.T) {
	for _, pid := range edges() {
		for _, blp := range []uint16{0, 1, 32768, 65535} {
			p := api.Pair{Pid: pid, Blp: blp}
			checkHas(t, []api.Pair{p}, asked(p))
		}
	}
}

func TestManyPairs(t *testing.T) {
	for seed := range uint32(300) {
		var l []api.Pair
		for _, n := range numbers(seed, int(seed%40)) {
			// Every third list has its Pids close together, so that pairs ask for the same.
			if seed%3 == 0 {
				n = n&^0xffff | (n%64+65500)%65536
			}
			l = append(l, api.Pair{Pid: uint16(n), Blp: uint16(n >> 8)})
		}
		want := allAsked(l)
		checkExpand(t, l, want)
		checkPack(t, want, packed(want))
		for _, s := range want {
			for _, beside := range []uint16{s - 17, s - 16, s - 1, s, s + 1, s + 16, s + 17, s + 32768} {
				if got := Has(l, beside); got != slices.Contains(want, beside) {
					t.Errorf("Has(%v, %d) = %v", l, beside, got)
				}
			}
		}
	}
}

// What the first, the one in the middle and the last pair ask for is there, however many there are.
func TestHasLooksAtEachPair(t *testing.T) {
	l := []api.Pair{{Pid: 100, Blp: 2}, {Pid: 300, Blp: 4}, {Pid: 65530, Blp: 1 << 9}}
	checkHas(t, l, []uint16{100, 102, 300, 303, 65530, 4})
	slices.Reverse(l)
	checkHas(t, l, []uint16{100, 102, 300, 303, 65530, 4})
}

func TestPack(t *testing.T) {
	for _, x := range []struct {
		l    []uint16
		want []api.Pair
	}{
		{nil, nil},
		{[]uint16{}, nil},
		{[]uint16{0}, []api.Pair{{}}},
		{[]uint16{77}, []api.Pair{{Pid: 77}}},
		{[]uint16{65535}, []api.Pair{{Pid: 65535}}},
		{[]uint16{7, 8, 9}, []api.Pair{{Pid: 7, Blp: 3}}},
		// 1, 16 and 17 beyond.
		{[]uint16{7, 8}, []api.Pair{{Pid: 7, Blp: 1}}},
		{[]uint16{7, 23}, []api.Pair{{Pid: 7, Blp: 1 << 15}}},
		{[]uint16{7, 24}, []api.Pair{{Pid: 7}, {Pid: 24}}},
		{[]uint16{7, 8, 23, 24}, []api.Pair{{Pid: 7, Blp: 1 | 1<<15}, {Pid: 24}}},
		// It is the Pid that counts, not the one before, nor the first of all.
		{[]uint16{7, 15, 23, 31}, []api.Pair{{Pid: 7, Blp: 1<<7 | 1<<15}, {Pid: 31}}},
		{[]uint16{7, 22, 24, 40, 41}, []api.Pair{{Pid: 7, Blp: 1 << 14}, {Pid: 24, Blp: 1 << 15}, {Pid: 41}}},
		// The same again.
		{[]uint16{7, 7}, []api.Pair{{Pid: 7}, {Pid: 7}}},
		{[]uint16{7, 8, 8, 9}, []api.Pair{{Pid: 7, Blp: 1}, {Pid: 8, Blp: 1}}},
		{[]uint16{0, 0, 0}, []api.Pair{{}, {}, {}}},
		// Behind the one before it, though beyond the Pid; behind the Pid.
		{[]uint16{7, 10, 9}, []api.Pair{{Pid: 7, Blp: 4}, {Pid: 9}}},
		{[]uint16{7, 10, 9, 11, 25}, []api.Pair{{Pid: 7, Blp: 4}, {Pid: 9, Blp: 2 | 1<<15}}},
		{[]uint16{7, 8, 7, 8}, []api.Pair{{Pid: 7, Blp: 1}, {Pid: 7, Blp: 1}}},
		{[]uint16{7, 6, 5}, []api.Pair{{Pid: 7}, {Pid: 6}, {Pid: 5}}},
		{[]uint16{7, 65535, 0}, []api.Pair{{Pid: 7}, {Pid: 65535, Blp: 1}}},
		// A pair that is done takes none that would have fitted.
		{[]uint16{7, 40, 8}, []api.Pair{{Pid: 7}, {Pid: 40}, {Pid: 8}}},
		// Over the end of all numbers.
		{[]uint16{65535, 0}, []api.Pair{{Pid: 65535, Blp: 1}}},
		{[]uint16{65535, 15}, []api.Pair{{Pid: 65535, Blp: 1 << 15}}},
		{[]uint16{65535, 16}, []api.Pair{{Pid: 65535}, {Pid: 16}}},
		{[]uint16{65520, 65535, 0, 1}, []api.Pair{{Pid: 65520, Blp: 1<<14 | 1<<15}, {Pid: 1}}},
		{[]uint16{65530, 2, 65535}, []api.Pair{{Pid: 65530, Blp: 1 << 7}, {Pid: 65535}}},
		{[]uint16{0, 65535}, []api.Pair{{}, {Pid: 65535}}},
		// Half of all away, and one beside that.
		{[]uint16{0, 32768, 0}, []api.Pair{{}, {Pid: 32768}, {}}},
		{[]uint16{0, 32767, 32769}, []api.Pair{{}, {Pid: 32767, Blp: 2}}},
		{[]uint16{40000, 7232, 7233}, []api.Pair{{Pid: 40000}, {Pid: 7232, Blp: 1}}},
		{[]uint16{0, 1, 32769, 2}, []api.Pair{{Blp: 1}, {Pid: 32769}, {Pid: 2}}},
	} {
		checkPack(t, x.l, x.want)
	}
}

// Every second number behind some first ones.
func TestPackOfTwo(t *testing.T) {
	for _, first := range edges() {
		for second := range 65536 {
			l := []uint16{first, uint16(second)}
			checkPack(t, l, packed(l))
		}
	}
}

// Every third number near the Pid, and near half of all away from either, behind each second one that a pair takes or just not.
func TestPackOfThree(t *testing.T) {
	for _, first := range edges() {
		for second := -1; second <= 18; second++ {
			for third := -20; third <= 40; third++ {
				for _, far := range []uint16{0, 32768} {
					l := []uint16{first, first + uint16(second), first + uint16(third) + far}
					checkPack(t, l, packed(l))
				}
			}
		}
	}
}

func TestPackOfMany(t *testing.T) {
	for seed := range uint32(600) {
		// Steps of few numbers and of many, some back, from a place near the end of all.
		wide := []uint32{2, 4, 8, 20, 100, 65536}[seed%6]
		at := uint16(65500)
		var l []uint16
		for _, n := range numbers(seed, int(seed%200)) {
			at += uint16(n % wide)
			if n>>16%9 == 0 {
				at -= uint16(n >> 20 % 20)
			}
			l = append(l, at)
		}
		checkPack(t, l, packed(l))
		for _, s := range l {
			if !Has(Pack(l), s) {
				t.Errorf("Has of Pack(%v), %d", l, s)
			}
		}
	}
}

func TestLongLists(t *testing.T) {
	var all []uint16
	for i := range 3 * 65536 {
		all = append(all, uint16(i))
	}
	pairs := Pack(all)
	if !slices.Equal(pairs, packed(all)) || len(pairs) != (3*65536+16)/17 {
		t.Error("all numbers, three times:", len(pairs))
	}
	if !slices.Equal(Expand(pairs), all) {
		t.Error("all numbers, three times: other numbers")
	}
	same := make([]uint16, 100000)
	if pairs := Pack(same); len(pairs) != len(same) || !slices.Equal(Expand(pairs), same) || !Has(pairs, 0) || Has(pairs, 1) {
		t.Error("one number, many times")
	}
	full := slices.Repeat([]api.Pair{{Pid: 65530, Blp: 65535}}, 20000)
	if l := Expand(full); !slices.Equal(l, allAsked(full)) || !Has(full, 10) || Has(full, 11) || Has(full, 65529) {
		t.Error("one pair, many times")
	}
}

// spare is a list with spare room behind it, filled.
func spare[T any](list []T, fill T) []T {
	whole := append(slices.Clone(list), fill, fill, fill)
	return whole[: len(list) : len(list)+3]
}

// scribble writes into all of a list, its spare room, too.
func scribble[T any](list []T, x T) {
	for i := range list[:cap(list)] {
		list[:cap(list)][i] = x
	}
}

func TestExpandAndHasLeaveTheirPairs(t *testing.T) {
	fill := api.Pair{Pid: 77, Blp: 77}
	for _, pairs := range [][]api.Pair{{}, {{Pid: 5}}, {{Pid: 5, Blp: 3}, {Pid: 65535, Blp: 65535}, {Pid: 9}}} {
		l := spare(pairs, fill)
		before := slices.Clone(l[:cap(l)])
		one, two := Expand(l), Expand(l)
		if Has(l, 77) || Has(l, 78) || Has(l, 5) != (len(l) > 0) {
			t.Error("what is in the spare room counts:", l)
		}
		scribble(one, 4711)
		if !slices.Equal(l[:cap(l)], before) {
			t.Error("the pairs were changed:", l[:cap(l)])
		}
		scribble(l, fill)
		if want := allAsked(pairs); !slices.Equal(two, want) {
			t.Errorf("an answer shares memory with another, or with the pairs: %v, want %v", two, want)
		}
		checkExpand(t, pairs, allAsked(pairs))
	}
}

func TestPackLeavesItsNumbers(t *testing.T) {
	for _, list := range [][]uint16{{}, {5}, {5, 6, 7, 65535, 3, 3, 20}} {
		l := spare(list, 77)
		before := slices.Clone(l[:cap(l)])
		one, two := Pack(l), Pack(l)
		scribble(one, api.Pair{Pid: 4711, Blp: 4711})
		if !slices.Equal(l[:cap(l)], before) {
			t.Error("the numbers were changed:", l[:cap(l)])
		}
		scribble(l, 77)
		if want := packed(list); !slices.Equal(two, want) {
			t.Errorf("an answer shares memory with another, or with the numbers: %v, want %v", two, want)
		}
		checkPack(t, list, packed(list))
	}
}

func ExampleExpand() {
	fmt.Println(Expand([]api.Pair{{Pid: 65534, Blp: 5}, {Pid: 7}}))
	// Output: [65534 65535 1 7]
}

func ExamplePack() {
	fmt.Println(Pack([]uint16{65534, 65535, 1, 40}))
	// Output: [{65534 5} {40 0}]
}

func ExampleHas() {
	l := []api.Pair{{Pid: 65534, Blp: 5}}
	fmt.Println(Has(l, 1), Has(l, 0))
	// Output: true false
}
