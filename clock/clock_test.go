package clock

import (
	"fmt"
	"testing"

	"sluicegate/api"
)

const round = 1 << 32

// edges are where a number of 32 bits may be taken wrongly: round 0, round a step, round the half, and some between.
func edges() []uint32 {
	return []uint32{
		0, 1, 2, 2999, 3000, 3001, 65535, 65536, 1<<24 - 1, 1 << 24, 1<<31 - 3000, 1<<31 - 1, 1 << 31, 1<<31 + 1,
		3735928559, 1<<32 - 65536, 1<<32 - 3001, 1<<32 - 3000, 1<<32 - 2999, 1<<32 - 2, 1<<32 - 1,
	}
}

// clocks have edges in all fields at once.
func clocks() []api.Clock {
	var all []api.Clock
	for _, some := range []bool{false, true} {
		for _, off := range edges() {
			for _, last := range edges() {
				all = append(all, api.Clock{Any: some, Off: off, Last: last})
			}
		}
	}
	return all
}

// model is a Clock as the chapter's words have it, written apart from it: in numbers that go round nowhere but in modulo.
type model struct {
	any       bool
	off, last int
}

func modelOf(c api.Clock) model {
	return model{c.Any, int(c.Off), int(c.Last)}
}

func (m model) clock() api.Clock {
	return api.Clock{Any: m.any, Off: uint32(m.off), Last: uint32(m.last)}
}

func modulo(n int) int {
	return (n%round + round) % round
}

func (m model) out(in int) int {
	return modulo(in + m.off)
}

func (m model) start(in int) model {
	first := 0
	if m.any {
		first = m.last + 3000
	}
	m.off = modulo(first - in)
	return m
}

func (m model) step(in int) (model, int) {
	out := m.out(in)
	return model{true, m.off, out}, out
}

// start makes one start, and holds it against the model; Start must leave c as it is, and say the same again.
func start(t *testing.T, c api.Clock, in uint32) api.Clock {
	t.Helper()
	was, want := c, modelOf(c).start(int(in)).clock()
	for range 2 {
		if next := Start(c, in); next != want || c != was {
			t.Fatalf("Start(%+v, %d) = %+v, want %+v; it left %+v", was, in, next, want, c)
		}
	}
	return want
}

// step makes one step, and holds it against the model; Step must leave c as it is, and say the same again.
func step(t *testing.T, c api.Clock, in uint32) (api.Clock, uint32) {
	t.Helper()
	was := c
	m, told := modelOf(c).step(int(in))
	want := m.clock()
	for range 2 {
		if next, out := Step(c, in); next != want || int(out) != told || c != was {
			t.Fatalf("Step(%+v, %d) = %+v, %d, want %+v, %d; it left %+v", was, in, next, out, want, told, c)
		}
	}
	return want, uint32(told)
}

// told holds that in goes out as want, by Step and by Out.
func told(t *testing.T, c api.Clock, in, want uint32) api.Clock {
	t.Helper()
	if out := Out(c, in); out != want {
		t.Fatalf("Out(%+v, %d) = %d, want %d", c, in, out, want)
	}
	next, out := step(t, c, in)
	if out != want || next != (api.Clock{Any: true, Off: c.Off, Last: want}) {
		t.Fatalf("Step(%+v, %d) = %+v, %d, want %d", c, in, next, out, want)
	}
	return next
}

// dice throws the same numbers in every run.
type dice uint64

func (d *dice) throw(n int) int {
	*d = *d*6364136223846793005 + 1442695040888963407
	return int(*d>>31) % n
}

// What stands in each field behind a start, written out.
func TestStartFields(t *testing.T) {
	for _, x := range []struct {
		c    api.Clock
		in   uint32
		want api.Clock
	}{
		{api.Clock{}, 0, api.Clock{}},
		{api.Clock{}, 1, api.Clock{Off: 4294967295}},
		{api.Clock{}, 4294967295, api.Clock{Off: 1}},
		{api.Clock{}, 1 << 31, api.Clock{Off: 1 << 31}},
		{api.Clock{Off: 77, Last: 5000}, 0, api.Clock{Last: 5000}},
		{api.Clock{Off: 77, Last: 5000}, 8000, api.Clock{Off: 4294959296, Last: 5000}},
		{api.Clock{Any: true}, 0, api.Clock{Any: true, Off: 3000}},
		{api.Clock{Any: true}, 3000, api.Clock{Any: true}},
		{api.Clock{Any: true}, 3001, api.Clock{Any: true, Off: 4294967295}},
		{api.Clock{Any: true, Off: 77, Last: 5000}, 8000, api.Clock{Any: true, Last: 5000}},
		{api.Clock{Any: true, Off: 77, Last: 5000}, 90, api.Clock{Any: true, Off: 7910, Last: 5000}},
		{api.Clock{Any: true, Off: 77, Last: 4294964295}, 0, api.Clock{Any: true, Off: 4294967295, Last: 4294964295}},
		{api.Clock{Any: true, Off: 77, Last: 4294964296}, 0, api.Clock{Any: true, Last: 4294964296}},
		{api.Clock{Any: true, Off: 77, Last: 4294967295}, 0, api.Clock{Any: true, Off: 2999, Last: 4294967295}},
		{api.Clock{Any: true, Off: 77, Last: 4294967295}, 4294967295, api.Clock{Any: true, Off: 3000, Last: 4294967295}},
	} {
		if c := Start(x.c, x.in); c != x.want {
			t.Errorf("Start(%+v, %d) = %+v, want %+v", x.c, x.in, c, x.want)
		}
	}
}

// What stands in each field behind a step, and what is told, written out.
func TestStepFields(t *testing.T) {
	for _, x := range []struct {
		c    api.Clock
		in   uint32
		want api.Clock
		out  uint32
	}{
		{api.Clock{}, 0, api.Clock{Any: true}, 0},
		{api.Clock{}, 9, api.Clock{Any: true, Last: 9}, 9},
		{api.Clock{Off: 6, Last: 40}, 4, api.Clock{Any: true, Off: 6, Last: 10}, 10},
		{api.Clock{Any: true, Off: 6, Last: 40}, 4, api.Clock{Any: true, Off: 6, Last: 10}, 10},
		{api.Clock{Any: true, Off: 6, Last: 40}, 34, api.Clock{Any: true, Off: 6, Last: 40}, 40},
		{api.Clock{Any: true, Off: 1}, 4294967294, api.Clock{Any: true, Off: 1, Last: 4294967295}, 4294967295},
		{api.Clock{Any: true, Off: 1}, 4294967295, api.Clock{Any: true, Off: 1}, 0},
		{api.Clock{Off: 4294967295, Last: 3}, 4294967295, api.Clock{Any: true, Off: 4294967295, Last: 4294967294}, 4294967294},
		{api.Clock{Off: 1 << 31, Last: 3}, 1 << 31, api.Clock{Any: true, Off: 1 << 31}, 0},
		{api.Clock{Any: true, Off: 4294966796}, 510, api.Clock{Any: true, Off: 4294966796, Last: 10}, 10},
	} {
		if c, out := Step(x.c, x.in); c != x.want || out != x.out {
			t.Errorf("Step(%+v, %d) = %+v, %d, want %+v, %d", x.c, x.in, c, out, x.want, x.out)
		}
	}
}

func TestOut(t *testing.T) {
	for _, x := range []struct {
		off, in, want uint32
	}{
		{0, 0, 0}, {0, 5, 5}, {5, 0, 5}, {300, 500, 800}, {4294967276, 30, 10}, {1, 4294967294, 4294967295}, {1, 4294967295, 0},
		{2, 4294967295, 1}, {4294967295, 0, 4294967295}, {4294967295, 1, 0}, {4294967295, 4294967295, 4294967294},
		{1 << 31, 1 << 31, 0}, {1 << 31, 1<<31 - 1, 4294967295}, {1<<31 + 1, 1 << 31, 1},
	} {
		if out := Out(api.Clock{Off: x.off}, x.in); out != x.want {
			t.Errorf("Off %d: Out(%d) = %d, want %d", x.off, x.in, out, x.want)
		}
	}
}

// Edges in all fields and in what comes in, at all three calls.
func TestEveryEdge(t *testing.T) {
	for _, c := range clocks() {
		for _, in := range edges() {
			start(t, c, in)
			step(t, c, in)
			was, want := c, modelOf(c).out(int(in))
			if out := Out(c, in); int(out) != want || c != was {
				t.Fatalf("Out(%+v, %d) = %d, want %d; it left %+v", was, in, out, want, c)
			}
		}
	}
}

// Behind a start the time that it was made for goes out a step behind Last, and as 0 if nothing went out, whatever Last is.
func TestStartThenOut(t *testing.T) {
	for _, c := range clocks() {
		var want uint32
		if c.Any {
			want = c.Last + 3000
		}
		for _, in := range edges() {
			s := Start(c, in)
			next := told(t, s, in, want)
			// The times round it keep their way from it.
			told(t, s, in+1, want+1)
			told(t, s, in-1, want-1)
			told(t, next, in+90000, want+90000)
			told(t, next, in+1<<31, want+1<<31)
		}
	}
}

// Start changes Off alone, and Off that was counts for nothing.
func TestStartChangesOffAlone(t *testing.T) {
	for _, c := range clocks() {
		for _, in := range edges() {
			s := Start(c, in)
			if s.Any != c.Any || s.Last != c.Last {
				t.Fatalf("Start(%+v, %d) = %+v", c, in, s)
			}
			if other := Start(api.Clock{Any: c.Any, Off: ^c.Off, Last: c.Last}, in); other != s {
				t.Fatalf("Start(%+v, %d) = %+v, and of another Off %+v", c, in, s, other)
			}
			if again := Start(s, in); again != s {
				t.Fatalf("Start(%+v, %d) = %+v", s, in, again)
			}
		}
	}
}

// A start for another time takes the place of the one ahead of it.
func TestLastStartCounts(t *testing.T) {
	for _, c := range clocks() {
		for _, in := range edges() {
			for _, other := range []uint32{0, 3000, 1 << 31, 1<<32 - 1} {
				if s := Start(Start(c, other), in); s != Start(c, in) {
					t.Fatalf("%+v: started for %d, then for %d: %+v", c, other, in, s)
				}
			}
		}
	}
}

// Step leaves Off as it is, tells what Out tells, keeps that as Last, and asks neither for Any nor for Last.
func TestStepTellsOut(t *testing.T) {
	for _, c := range clocks() {
		for _, in := range edges() {
			next, out := Step(c, in)
			if out != Out(c, in) || next.Off != c.Off || next.Last != out || !next.Any {
				t.Fatalf("Step(%+v, %d) = %+v, %d", c, in, next, out)
			}
			if other, same := Step(api.Clock{Any: !c.Any, Off: c.Off, Last: ^c.Last}, in); other != next || same != out {
				t.Fatalf("Step(%+v, %d) = %+v, %d, and of another Last %+v, %d", c, in, next, out, other, same)
			}
		}
	}
}

// Out asks for Off alone.
func TestOutAsksForOffAlone(t *testing.T) {
	for _, c := range clocks() {
		for _, in := range edges() {
			if out := Out(c, in); out != Out(api.Clock{Off: c.Off}, in) {
				t.Fatalf("Out(%+v, %d) = %d", c, in, out)
			}
		}
	}
}

// Times in their order, the same again, and out of their order: each goes out as far from the first as it came in, and the one that came last is Last.
func TestInAndOutOfOrder(t *testing.T) {
	for _, first := range edges() {
		c := start(t, api.Clock{Last: 12345}, first)
		for _, far := range []uint32{0, 3000, 6000, 6000, 9000, 3000, 1<<32 - 3000, 12000, 1 << 31, 12001, 0, 1<<31 + 5, 1<<32 - 1} {
			c = told(t, c, first+far, far)
		}
		// The last one went out as the greatest number: the next start goes round.
		c = start(t, c, first)
		c = told(t, c, first, 2999)
		told(t, c, first-2999, 0)
	}
}

// Starts one behind the other with a time between: each goes on where the last one stood, whatever way that was.
func TestStartsBetween(t *testing.T) {
	for _, a := range edges() {
		for _, b := range edges() {
			c := start(t, api.Clock{}, a)
			c = told(t, c, a, 0)
			c = told(t, c, a+7000, 7000)
			c = start(t, c, b)
			c = told(t, c, b, 10000)
			// What comes late goes out late, and that is what the next start goes on from.
			c = told(t, c, b-4000, 6000)
			c = start(t, c, a)
			c = told(t, c, a, 9000)
			c = told(t, c, a-9001, 1<<32-1)
			c = start(t, c, b)
			told(t, c, b, 2999)
		}
	}
}

// A start behind a first step without a start goes on from what that step told, though it were 0.
func TestStartBehindZero(t *testing.T) {
	c := told(t, api.Clock{}, 0, 0)
	c = start(t, c, 100)
	told(t, c, 100, 3000)
}

// Steps of 3,000 go round 4,294,967,295 more than once, by starts and by times.
func TestGoesRound(t *testing.T) {
	c := told(t, api.Clock{Off: 1<<32 - 10}, 5, 1<<32-5)
	want := uint32(1<<32 - 5)
	rounds := 0
	for k := range uint32(5000) {
		in := k * 2654435761
		c = start(t, c, in)
		c = told(t, c, in, want+3000)
		c = told(t, c, in+2000000, want+2003000)
		if want+2003000 < want {
			rounds++
		}
		want += 2003000
	}
	if rounds < 2 {
		t.Error("rounds", rounds)
	}
}

// Long rows of times, in their order and out of it, with starts between.
func TestRows(t *testing.T) {
	var late, starts, rounds int
	for seed := range 60 {
		d := dice(seed)
		in := uint32(d.throw(round))
		c := start(t, api.Clock{Off: uint32(d.throw(round)), Last: uint32(d.throw(round))}, in)
		c = told(t, c, in, 0)
		was, last := in, uint32(0)
		for range 3000 {
			switch d.throw(8) {
			case 0:
				in = uint32(d.throw(round))
				c = start(t, c, in)
				was, last = in, last+3000
				c = told(t, c, in, last)
				starts++
				continue
			case 1:
				in -= uint32(d.throw(90000))
				late++
			case 2:
				in += uint32(d.throw(1 << 30))
			default:
				in += 3000
			}
			want := last + (in - was)
			if want < last {
				rounds++
			}
			c = told(t, c, in, want)
			was, last = in, want
		}
	}
	if late < 1000 || starts < 1000 || rounds < 1000 {
		t.Error("rows too tame", late, starts, rounds)
	}
}

// Times without any rule, at Clocks without any rule.
func TestWithoutRule(t *testing.T) {
	d := dice(1000)
	for range 200000 {
		c := api.Clock{Any: d.throw(2) == 0, Off: uint32(d.throw(round)), Last: uint32(d.throw(round))}
		in := uint32(d.throw(round))
		s := start(t, c, in)
		step(t, c, in)
		step(t, s, uint32(d.throw(round)))
		if out := Out(c, in); int(out) != modelOf(c).out(int(in)) {
			t.Fatalf("Out(%+v, %d) = %d", c, in, out)
		}
	}
}

// Two Clocks have nothing in common, and from one Clock more than one may go on.
func TestTwoClocks(t *testing.T) {
	d := dice(7)
	all := []api.Clock{{}, {}, {Any: true, Off: 5, Last: 500}}
	for k := range 3000 {
		i, in := d.throw(len(all)), uint32(d.throw(round))
		was := [3]api.Clock(all)
		if d.throw(4) == 0 {
			all[i] = start(t, all[i], in)
		} else {
			all[i], _ = step(t, all[i], in)
		}
		for j := range all {
			if j != i && all[j] != was[j] {
				t.Fatal(k, i, j, all)
			}
		}
	}
	c := told(t, start(t, api.Clock{}, 10), 20, 10)
	a := told(t, c, 30, 20)
	b := told(t, start(t, c, 400), 400, 3010)
	e := told(t, c, 5, 1<<32-5)
	told(t, start(t, a, 0), 0, 3020)
	told(t, start(t, b, 0), 0, 6010)
	told(t, start(t, e, 0), 0, 2995)
	told(t, start(t, c, 0), 0, 3010)
}

func ExampleStart() {
	c := Start(api.Clock{}, 90000)
	for _, in := range []uint32{90000, 93000, 91500} {
		var out uint32
		c, out = Step(c, in)
		fmt.Println(in, out)
	}
	c = Start(c, 7)
	c, out := Step(c, 7)
	fmt.Println(7, out, Out(c, 3007))
	// Output:
	// 90000 0
	// 93000 3000
	// 91500 1500
	// 7 4500 7500
}
