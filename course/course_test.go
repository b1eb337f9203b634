package course

import (
	"fmt"
	"testing"

	"sluicegate/api"
)

const round = 1 << 16

// edges are where a number of 16 bits may be taken wrongly: round 0, round the half, and some between.
func edges() []uint16 {
	return []uint16{0, 1, 2, 9, 255, 256, 257, 4464, 32766, 32767, 32768, 32769, 40000, 65279, 65280, 65533, 65534, 65535}
}

// few of them, for what is tried in all their pairs and threes.
func few() []uint16 {
	return []uint16{0, 1, 300, 32767, 32768, 32769, 65534, 65535}
}

// model is a Course as the chapter's words have it, written apart from it: in numbers that go round nowhere but in modulo.
type model struct {
	live          bool
	in, off, next int
}

func modelOf(c api.Course) model {
	return model{c.Live, int(c.In), int(c.Off), int(c.Next)}
}

func (m model) course() api.Course {
	return api.Course{Live: m.live, In: uint16(m.in), Off: uint16(m.off), Next: uint16(m.next)}
}

func modulo(n int) int {
	return (n%round + round) % round
}

// ahead says it by the definition: from 1 to 32,767 added to b make a.
func ahead(a, b int) bool {
	d := modulo(a - b)
	return d >= 1 && d <= 32767
}

func (m model) step(in int) (model, int, bool) {
	if m.live && !ahead(in, m.in) {
		return m, 0, false
	}
	return model{true, in, modulo(m.next - in), modulo(m.next + 1)}, m.next, true
}

// step makes one step, and holds it against the model; Step must leave c as it is, and say the same again.
func step(t *testing.T, c api.Course, in uint16) (api.Course, uint16, bool) {
	t.Helper()
	was := c
	m, want, some := modelOf(c).step(int(in))
	for range 2 {
		next, out, ok := Step(c, in)
		if next != m.course() || int(out) != want || ok != some {
			t.Fatalf("Step(%+v, %d) = %+v, %d, %v, want %+v, %d, %v", was, in, next, out, ok, m.course(), want, some)
		}
		if c != was {
			t.Fatalf("Step(%+v, %d) made of what it was given %+v", was, in, c)
		}
	}
	next, out, ok := Step(c, in)
	return next, out, ok
}

// taken holds that in is taken, and as which number.
func taken(t *testing.T, c api.Course, in, want uint16) api.Course {
	t.Helper()
	next, out, ok := step(t, c, in)
	if !ok || out != want || Out(next, in) != want || !next.Live || next.In != in || next.Next != want+1 {
		t.Fatalf("Step(%+v, %d) = %+v, %d, %v, want %d", c, in, next, out, ok, want)
	}
	return next
}

// refused holds that in is not taken, and that nothing has changed.
func refused(t *testing.T, c api.Course, in uint16) {
	t.Helper()
	if next, out, ok := step(t, c, in); ok || out != 0 || next != c {
		t.Fatalf("Step(%+v, %d) = %+v, %d, %v, want it refused", c, in, next, out, ok)
	}
}

// dice throws the same numbers in every run.
type dice uint64

func (d *dice) throw(n int) int {
	*d = *d*6364136223846793005 + 1442695040888963407
	return int(*d>>33) % n
}

// What stands in each field after a step, written out.
func TestStepFields(t *testing.T) {
	for _, x := range []struct {
		c    api.Course
		in   uint16
		want api.Course
		out  uint16
		ok   bool
	}{
		{api.Course{}, 0, api.Course{Live: true, Next: 1}, 0, true},
		{api.Course{}, 1, api.Course{Live: true, In: 1, Off: 65535, Next: 1}, 0, true},
		{api.Course{}, 65535, api.Course{Live: true, In: 65535, Off: 1, Next: 1}, 0, true},
		{api.Course{}, 32768, api.Course{Live: true, In: 32768, Off: 32768, Next: 1}, 0, true},
		{api.Course{Live: true}, 0, api.Course{Live: true}, 0, false},
		{api.Course{Live: true}, 1, api.Course{Live: true, In: 1, Off: 65535, Next: 1}, 0, true},
		{api.Course{Live: true, In: 100, Off: 65446, Next: 11}, 101, api.Course{Live: true, In: 101, Off: 65446, Next: 12}, 11, true},
		{api.Course{Live: true, In: 100, Off: 65446, Next: 11}, 104, api.Course{Live: true, In: 104, Off: 65443, Next: 12}, 11, true},
		{api.Course{Live: true, In: 100, Off: 65446, Next: 11}, 100, api.Course{Live: true, In: 100, Off: 65446, Next: 11}, 0, false},
		{api.Course{Live: true, In: 100, Off: 65446, Next: 11}, 99, api.Course{Live: true, In: 100, Off: 65446, Next: 11}, 0, false},
		{api.Course{Live: true, In: 65535, Off: 5, Next: 4}, 0, api.Course{Live: true, Off: 4, Next: 5}, 4, true},
		{api.Course{Live: true, In: 7, Off: 65528, Next: 65535}, 8, api.Course{Live: true, In: 8, Off: 65527}, 65535, true},
		{api.Course{In: 7, Off: 3, Next: 65535}, 7, api.Course{Live: true, In: 7, Off: 65528}, 65535, true},
		{api.Course{In: 200, Off: 9, Next: 50}, 199, api.Course{Live: true, In: 199, Off: 65387, Next: 51}, 50, true},
	} {
		if next, out, ok := Step(x.c, x.in); next != x.want || out != x.out || ok != x.ok {
			t.Errorf("Step(%+v, %d) = %+v, %d, %v, want %+v, %d, %v", x.c, x.in, next, out, ok, x.want, x.out, x.ok)
		}
	}
}

// While no number is missing Off stays, though In and Next go round, more than once.
func TestNoneMissing(t *testing.T) {
	for _, first := range []uint16{0, 1, 5, 32768, 65533, 65535} {
		for _, next := range []uint16{0, 1, 40000, 65534, 65535} {
			c := taken(t, api.Course{Next: next}, first, next)
			off := c.Off
			if first+off != next {
				t.Fatal("Off of the first", first, next, off)
			}
			for k := 1; k < 2*round+9; k++ {
				var out uint16
				var ok bool
				if c, out, ok = Step(c, first+uint16(k)); !ok || out != next+uint16(k) || c.Off != off {
					t.Fatal(first, next, k, c, out, ok)
				}
			}
		}
	}
}

// Where numbers are missing what is told has no gap, and Off is less by as many as are missing.
func TestMissing(t *testing.T) {
	for _, gap := range []uint16{1, 2, 3, 16, 17, 1000, 32765, 32766} {
		for _, first := range edges() {
			for _, next := range few() {
				c := taken(t, api.Course{Next: next}, first, next)
				in, off := first, c.Off
				for k := range uint16(12) {
					in += gap + 1
					off -= gap
					if c = taken(t, c, in, next+k+1); c.Off != off {
						t.Fatal(gap, first, next, k, c, off)
					}
					in++
					// Between two gaps Off stays.
					next++
					if c = taken(t, c, in, next+k+1); c.Off != off {
						t.Fatal(gap, first, next, k, c, off)
					}
				}
			}
		}
	}
}

// The numbers at the edges of what is ahead, from every number that may have come last.
func TestHowFarAhead(t *testing.T) {
	for last := range round {
		c := api.Course{Live: true, In: uint16(last), Off: 12345, Next: 54321}
		for _, far := range []uint16{1, 2, 32766, 32767} {
			if next, out, ok := Step(c, c.In+far); !ok || out != 54321 || next != (api.Course{Live: true, In: c.In + far, Off: 54321 - c.In - far, Next: 54322}) {
				t.Fatal(last, far, next, out, ok)
			}
		}
		for _, far := range []uint16{0, 32768, 32769, 65534, 65535} {
			if next, out, ok := Step(c, c.In+far); ok || out != 0 || next != c {
				t.Fatal(last, far, next, out, ok)
			}
		}
	}
}

// Every number that may come in, at Courses with edges in every field, Live and not.
func TestEveryNumber(t *testing.T) {
	for _, last := range edges() {
		for _, c := range []api.Course{
			{Live: true, In: last}, {Live: true, In: last, Off: 65535, Next: 65535}, {Live: true, In: last, Off: 7, Next: 40000},
			{In: last}, {In: last, Off: 65535, Next: 65535}, {In: last, Off: 7, Next: 40000},
		} {
			count := 0
			for in := range round {
				if _, _, ok := step(t, c, uint16(in)); ok {
					count++
				}
			}
			if want := 32767; c.Live && count != want {
				t.Errorf("%+v: %d are taken, want %d", c, count, want)
			}
			if !c.Live && count != round {
				t.Errorf("%+v: %d are taken, want all", c, count)
			}
		}
	}
}

// Edges in all fields at once.
func TestEveryEdge(t *testing.T) {
	for _, live := range []bool{false, true} {
		for _, last := range few() {
			for _, off := range few() {
				for _, next := range few() {
					for _, far := range edges() {
						step(t, api.Course{Live: live, In: last, Off: off, Next: next}, last+far)
						step(t, api.Course{Live: live, In: last, Off: off, Next: next}, far)
					}
				}
			}
		}
	}
}

// What is told is Next, and what was Off counts for nothing, if in is taken.
func TestStepAsksNotForOff(t *testing.T) {
	for _, live := range []bool{false, true} {
		want, out, ok := Step(api.Course{Live: live, In: 10, Next: 77}, 13)
		if !ok || out != 77 || want.Off != 64 {
			t.Fatal(want, out, ok)
		}
		for off := range round {
			if c, out, ok := Step(api.Course{Live: live, In: 10, Off: uint16(off), Next: 77}, 13); !ok || out != 77 || c != want {
				t.Fatal(off, c, out, ok)
			}
		}
	}
}

// Next is told as it is, wherever it stands, and goes round.
func TestEveryNext(t *testing.T) {
	for next := range round {
		for _, live := range []bool{false, true} {
			c, out, ok := Step(api.Course{Live: live, In: 65535, Off: 3, Next: uint16(next)}, 2)
			if !ok || int(out) != next || int(c.Next) != modulo(next+1) || int(c.Off) != modulo(next-2) || c.In != 2 || !c.Live {
				t.Fatal(next, live, c, out, ok)
			}
		}
	}
}

// What is not taken changes nothing: neither what is there nor what comes later.
func TestRefused(t *testing.T) {
	for _, first := range edges() {
		for _, next := range few() {
			c := taken(t, api.Course{Next: next}, first, next)
			for _, behind := range []uint16{0, 1, 2, 100, 32766, 32767, 32768} {
				refused(t, c, first-behind)
				refused(t, c, first-behind)
			}
			c = taken(t, c, first+3, next+1)
			// Those that were missing come too late.
			for _, late := range []uint16{0, 1, 2, 3} {
				refused(t, c, first+late)
			}
			c = taken(t, c, first+4, next+2)
			if Out(c, first+4) != next+2 {
				t.Fatal(first, next, c)
			}
		}
	}
}

// Half a round apart neither is ahead; one that is nearer by one is.
func TestHalfRound(t *testing.T) {
	for _, last := range edges() {
		c := api.Course{Live: true, In: last, Off: 6, Next: 9}
		refused(t, c, last+32768)
		refused(t, c, last+32769)
		c = taken(t, c, last+32767, 9)
		refused(t, c, last)
		refused(t, c, last+65535)
		taken(t, c, last+32768, 10)
	}
}

// Of a Course that is not Live the next number is taken, whatever it is, and only that one.
func TestNotLive(t *testing.T) {
	for _, last := range few() {
		for in := range round {
			c := api.Course{In: last, Off: 4000, Next: 65535}
			next, out, ok := Step(c, uint16(in))
			if !ok || out != 65535 || next != (api.Course{Live: true, In: uint16(in), Off: 65535 - uint16(in), Next: 0}) {
				t.Fatal(last, in, next, out, ok)
			}
			if again, out, ok := Step(next, uint16(in)); ok || out != 0 || again != next {
				t.Fatal(last, in, again, out, ok)
			}
		}
	}
}

func TestBreak(t *testing.T) {
	for _, live := range []bool{false, true} {
		for _, in := range edges() {
			for _, off := range edges() {
				for _, next := range edges() {
					c := api.Course{Live: live, In: in, Off: off, Next: next}
					was, want := c, api.Course{In: in, Off: off, Next: next}
					b := Break(c)
					if b != want || c != was {
						t.Fatalf("Break(%+v) = %+v, and left %+v", was, b, c)
					}
					if twice := Break(b); twice != want {
						t.Fatalf("Break(%+v) = %+v", b, twice)
					}
				}
			}
		}
	}
	if c := Break(api.Course{}); c != (api.Course{}) {
		t.Error("of none", c)
	}
}

// Behind a break each number is taken, the same again and those behind too, and what is told goes on.
func TestStepBehindBreak(t *testing.T) {
	for _, last := range edges() {
		for _, far := range edges() {
			c := taken(t, api.Course{Next: 65533}, last, 65533)
			c = Break(c)
			c = taken(t, c, last+far, 65534)
			refused(t, c, last+far)
			c = Break(Break(c))
			c = taken(t, c, last+far-1, 65535)
			c = taken(t, c, last+far, 0)
			taken(t, Break(c), last, 1)
		}
	}
}

// A break changes nothing of what Out says.
func TestOutBehindBreak(t *testing.T) {
	c := taken(t, api.Course{Next: 20}, 65530, 20)
	for in := range round {
		want := uint16(in) - 65530 + 20
		if out := Out(c, uint16(in)); out != want {
			t.Fatal(in, out, want)
		}
		if out := Out(Break(c), uint16(in)); out != want {
			t.Fatal("break", in, out, want)
		}
	}
}

func TestOut(t *testing.T) {
	for _, x := range []struct {
		off, in, want uint16
	}{
		{0, 0, 0}, {0, 5, 5}, {5, 0, 5}, {1, 65534, 65535}, {1, 65535, 0}, {2, 65535, 1}, {65535, 1, 0}, {65535, 0, 65535},
		{65535, 65535, 65534}, {32768, 32768, 0}, {32768, 32767, 65535}, {32769, 32768, 1}, {65526, 30, 20}, {300, 500, 800},
	} {
		if out := Out(api.Course{Off: x.off}, x.in); out != x.want {
			t.Errorf("Off %d: Out(%d) = %d, want %d", x.off, x.in, out, x.want)
		}
	}
}

// Out asks for Off alone, and for each number, ahead or not.
func TestOutOfEveryNumber(t *testing.T) {
	for _, off := range edges() {
		courses := []api.Course{
			{Off: off}, {Live: true, Off: off}, {In: 100, Off: off, Next: 7}, {Live: true, In: 40000, Off: off, Next: 65535},
			{Live: true, In: 65535, Off: off, Next: 32768},
		}
		for in := range round {
			want := modulo(in + int(off))
			for _, c := range courses {
				was := c
				if out := Out(c, uint16(in)); int(out) != want || c != was {
					t.Fatalf("Out(%+v, %d) = %d, want %d", c, in, out, want)
				}
			}
		}
	}
}

// Long rows of numbers that come in, with some missing, some that come late or twice, and breaks between.
func TestRows(t *testing.T) {
	var late, missing, breaks, rounds int
	for seed := range 60 {
		d := dice(seed)
		next := uint16(d.throw(round))
		c, want, in := api.Course{Next: next}, next, uint16(d.throw(round))
		for range 4000 {
			switch d.throw(12) {
			case 0:
				c = Break(c)
				in = uint16(d.throw(round))
				breaks++
			case 1:
				if c.Live {
					refused(t, c, c.In-uint16(d.throw(32769)))
					late++
				}
			case 2, 3:
				in += uint16(d.throw(400))
				missing++
			case 4:
				in += uint16(d.throw(32000))
				missing++
			}
			if c.Live && !ahead(int(in), int(c.In)) {
				refused(t, c, in)
				in = c.In + 1
				late++
			}
			c = taken(t, c, in, want)
			if want++; want == 0 {
				rounds++
			}
			in++
		}
	}
	if late < 1000 || missing < 1000 || breaks < 1000 || rounds < 2 {
		t.Error("rows too tame", late, missing, breaks, rounds)
	}
}

// Numbers without any rule, and breaks: what is taken of them is told as a row without a gap.
func TestRowsWithoutRule(t *testing.T) {
	for seed := range 40 {
		d := dice(1000 + seed)
		c, want := api.Course{}, uint16(0)
		for range 3000 {
			if d.throw(20) == 0 {
				c = Break(c)
			}
			next, out, ok := step(t, c, uint16(d.throw(round)))
			if ok && out != want || next.Next != want+1 && ok || !ok && next.Next != want {
				t.Fatal(seed, c, next, out, ok, want)
			}
			if ok {
				want++
			}
			c = next
		}
		if want < 100 {
			t.Error("too few are taken", seed, want)
		}
	}
}

// Two Courses have nothing in common, and from one Course more than one may go on.
func TestTwoCourses(t *testing.T) {
	d := dice(7)
	courses := []api.Course{{}, {}, {Next: 500}}
	for k := range 3000 {
		i := d.throw(len(courses))
		was := [3]api.Course(courses)
		switch d.throw(8) {
		case 0:
			courses[i] = Break(courses[i])
		default:
			courses[i], _, _ = step(t, courses[i], uint16(d.throw(round)))
		}
		for j := range courses {
			if j != i && courses[j] != was[j] {
				t.Fatal(k, i, j, courses)
			}
		}
	}
	c := taken(t, api.Course{Next: 3}, 10, 3)
	a := taken(t, c, 11, 4)
	b := taken(t, c, 20, 4)
	e := taken(t, Break(c), 1, 4)
	if a.Off != c.Off || b.Off != c.Off-9 || e.Off != 3 {
		t.Error(c, a, b, e)
	}
	taken(t, a, 12, 5)
	refused(t, b, 12)
}

func ExampleStep() {
	c := api.Course{}
	for _, in := range []uint16{65534, 65535, 2, 1, 3} {
		var out uint16
		var ok bool
		c, out, ok = Step(c, in)
		fmt.Println(in, out, ok)
	}
	c, out, ok := Step(Break(c), 100)
	fmt.Println(100, out, ok, Out(c, 101))
	// Output:
	// 65534 0 true
	// 65535 1 true
	// 2 2 true
	// 1 0 false
	// 3 3 true
	// 100 4 true 5
}
