package gate

import (
	"fmt"
	"math"
	"testing"

	"sluicegate/api"
)

var both = []bool{false, true}

// edges are the layers there are, those beside them, and numbers far from them.
func edges() []int {
	return []int{
		math.MinInt, math.MinInt + 1, -1 << 32, -256, -3, -2, -1, 0, 1, 2, 3, 4, 255, 256, 1 << 31, 1 << 32, 1<<32 + 1, math.MaxInt - 1, math.MaxInt,
	}
}

// gates have edges in all fields at once.
func gates() []api.Gate {
	var all []api.Gate
	for _, want := range edges() {
		for _, cur := range edges() {
			for _, paused := range both {
				for _, muted := range both {
					all = append(all, api.Gate{Want: want, Cur: cur, Paused: paused, Muted: muted})
				}
			}
		}
	}
	return all
}

// The model, written apart from the code: each verdict by a condition of its own, as the chapter's words have it.

func held(layer int) int {
	if layer < 0 {
		return 0
	}
	if layer > 2 {
		return 2
	}
	return layer
}

func quiet(g api.Gate) bool {
	if g.Paused {
		return true
	}
	return g.Muted
}

func asks(g api.Gate) bool {
	if quiet(g) {
		return false
	}
	return g.Cur != g.Want
}

func taken(g api.Gate, layer int, key bool) (api.Gate, int) {
	if quiet(g) {
		return g, 4
	}
	if key {
		if layer == g.Want {
			if g.Cur != g.Want {
				return api.Gate{Want: g.Want, Cur: layer}, 2
			}
		}
	}
	if layer == g.Cur {
		return g, 1
	}
	return g, 3
}

func paused(g api.Gate, on bool) api.Gate {
	if on {
		return api.Gate{Want: g.Want, Cur: -1, Paused: true, Muted: g.Muted}
	}
	return api.Gate{Want: g.Want, Cur: g.Cur, Muted: g.Muted}
}

func muted(g api.Gate, on bool) api.Gate {
	if on {
		return api.Gate{Want: g.Want, Cur: -1, Paused: g.Paused, Muted: true}
	}
	return api.Gate{Want: g.Want, Cur: g.Cur, Paused: g.Paused}
}

// tell holds what Quiet and Asks say of g against the model; they must leave g as it is, and say the same again.
func tell(t *testing.T, g api.Gate) {
	t.Helper()
	was := g
	for range 2 {
		if q, a := Quiet(g), Asks(g); q != quiet(was) || a != asks(was) || g != was {
			t.Fatalf("%+v: Quiet %v, Asks %v; left %+v", was, q, a, g)
		}
	}
}

// take takes one packet, and holds the answer against the model; Take must leave g as it is, and say the same again.
func take(t *testing.T, g api.Gate, layer int, key bool) (api.Gate, int) {
	t.Helper()
	was := g
	want, verdict := taken(g, layer, key)
	for range 2 {
		if next, v := Take(g, layer, key); next != want || v != verdict || g != was {
			t.Fatalf("Take(%+v, %d, %v) = %+v, %d, want %+v, %d; it left %+v", was, layer, key, next, v, want, verdict, g)
		}
	}
	tell(t, want)
	return want, verdict
}

// pause, mute and wish do so for the three calls that set something.
func pause(t *testing.T, g api.Gate, on bool) api.Gate {
	t.Helper()
	return set(t, fmt.Sprintf("Pause(%+v, %v)", g, on), g, paused(g, on), func(g api.Gate) api.Gate { return Pause(g, on) })
}

func mute(t *testing.T, g api.Gate, on bool) api.Gate {
	t.Helper()
	return set(t, fmt.Sprintf("Mute(%+v, %v)", g, on), g, muted(g, on), func(g api.Gate) api.Gate { return Mute(g, on) })
}

func wish(t *testing.T, g api.Gate, layer int) api.Gate {
	t.Helper()
	want := api.Gate{Want: held(layer), Cur: g.Cur, Paused: g.Paused, Muted: g.Muted}
	return set(t, fmt.Sprintf("Want(%+v, %d)", g, layer), g, want, func(g api.Gate) api.Gate { return Want(g, layer) })
}

func set(t *testing.T, name string, g, want api.Gate, call func(api.Gate) api.Gate) api.Gate {
	t.Helper()
	was := g
	for range 2 {
		if next := call(g); next != want || g != was {
			t.Fatalf("%s = %+v, want %+v; it left %+v", name, next, want, g)
		}
	}
	tell(t, want)
	return want
}

// goes holds that a packet has the verdict want, and behind it the layer cur goes on.
func goes(t *testing.T, g api.Gate, layer int, key bool, want, cur int) api.Gate {
	t.Helper()
	next, v := take(t, g, layer, key)
	if v != want || next.Cur != cur {
		t.Fatalf("Take(%+v, %d, %v) = %+v, %d, want %d, and Cur %d", g, layer, key, next, v, want, cur)
	}
	return next
}

// dice throws the same numbers in every run.
type dice uint64

func (d *dice) throw(n int) int {
	*d = *d*6364136223846793005 + 1442695040888963407
	return int(*d>>33) % n
}

func TestNew(t *testing.T) {
	for _, x := range []struct{ want, held int }{
		{0, 0}, {1, 1}, {2, 2}, {3, 2}, {4, 2}, {256, 2}, {1 << 32, 2}, {1<<32 + 1, 2}, {math.MaxInt, 2},
		{-1, 0}, {-2, 0}, {-255, 0}, {-1<<32 + 1, 0}, {math.MinInt, 0}, {math.MinInt + 2, 0},
	} {
		for range 2 {
			g := New(x.want)
			if g != (api.Gate{Want: x.held, Cur: -1}) {
				t.Errorf("New(%d) = %+v", x.want, g)
			}
			if Quiet(g) || !Asks(g) {
				t.Errorf("New(%d): Quiet %v, Asks %v", x.want, Quiet(g), Asks(g))
			}
		}
	}
}

// What Take makes of each Gate, written out.
func TestTakeFields(t *testing.T) {
	for _, x := range []struct {
		g     api.Gate
		layer int
		key   bool
		want  api.Gate
		v     int
	}{
		// Nothing goes on yet.
		{api.Gate{Want: 1, Cur: -1}, 1, true, api.Gate{Want: 1, Cur: 1}, api.VSwitch},
		{api.Gate{Want: 1, Cur: -1}, 1, false, api.Gate{Want: 1, Cur: -1}, api.VGated},
		{api.Gate{Want: 1, Cur: -1}, 0, true, api.Gate{Want: 1, Cur: -1}, api.VGated},
		{api.Gate{Want: 1, Cur: -1}, 2, true, api.Gate{Want: 1, Cur: -1}, api.VGated},
		{api.Gate{Want: 1, Cur: -1}, 3, true, api.Gate{Want: 1, Cur: -1}, api.VGated},
		{api.Gate{Want: 0, Cur: -1}, 0, true, api.Gate{}, api.VSwitch},
		{api.Gate{Want: 2, Cur: -1}, 2, true, api.Gate{Want: 2, Cur: 2}, api.VSwitch},
		// A layer goes on that is the one that is wanted: a key frame of it is no switch.
		{api.Gate{Want: 1, Cur: 1}, 1, true, api.Gate{Want: 1, Cur: 1}, api.VSent},
		{api.Gate{Want: 1, Cur: 1}, 1, false, api.Gate{Want: 1, Cur: 1}, api.VSent},
		{api.Gate{Want: 1, Cur: 1}, 0, true, api.Gate{Want: 1, Cur: 1}, api.VGated},
		{api.Gate{Want: 1, Cur: 1}, 2, false, api.Gate{Want: 1, Cur: 1}, api.VGated},
		{api.Gate{}, 0, true, api.Gate{}, api.VSent},
		{api.Gate{}, 0, false, api.Gate{}, api.VSent},
		// A layer goes on that is not the one that is wanted.
		{api.Gate{Want: 2, Cur: 0}, 0, false, api.Gate{Want: 2}, api.VSent},
		{api.Gate{Want: 2, Cur: 0}, 0, true, api.Gate{Want: 2}, api.VSent},
		{api.Gate{Want: 2, Cur: 0}, 1, true, api.Gate{Want: 2}, api.VGated},
		{api.Gate{Want: 2, Cur: 0}, 2, false, api.Gate{Want: 2}, api.VGated},
		{api.Gate{Want: 2, Cur: 0}, 2, true, api.Gate{Want: 2, Cur: 2}, api.VSwitch},
		{api.Gate{Want: 0, Cur: 2}, 0, true, api.Gate{}, api.VSwitch},
		// Quiet, whatever comes.
		{api.Gate{Want: 1, Cur: -1, Paused: true}, 1, true, api.Gate{Want: 1, Cur: -1, Paused: true}, api.VQuiet},
		{api.Gate{Want: 1, Cur: -1, Muted: true}, 1, true, api.Gate{Want: 1, Cur: -1, Muted: true}, api.VQuiet},
		{api.Gate{Want: 1, Cur: 1, Paused: true}, 1, false, api.Gate{Want: 1, Cur: 1, Paused: true}, api.VQuiet},
		{api.Gate{Want: 1, Cur: 0, Muted: true}, 1, true, api.Gate{Want: 1, Muted: true}, api.VQuiet},
		{api.Gate{Want: 1, Cur: 2, Paused: true, Muted: true}, 0, false, api.Gate{Want: 1, Cur: 2, Paused: true, Muted: true}, api.VQuiet},
		// A layer of -1, and Gates whose fields are none of 0 to 2: the words hold as they stand.
		{api.Gate{Want: 1, Cur: -1}, -1, false, api.Gate{Want: 1, Cur: -1}, api.VSent},
		{api.Gate{Want: 1, Cur: -1}, -1, true, api.Gate{Want: 1, Cur: -1}, api.VSent},
		{api.Gate{Want: -1, Cur: -1}, -1, true, api.Gate{Want: -1, Cur: -1}, api.VSent},
		{api.Gate{Want: -1, Cur: 0}, -1, true, api.Gate{Want: -1, Cur: -1}, api.VSwitch},
		{api.Gate{Want: 7, Cur: -1}, 7, true, api.Gate{Want: 7, Cur: 7}, api.VSwitch},
		{api.Gate{Want: 7, Cur: -1}, 2, true, api.Gate{Want: 7, Cur: -1}, api.VGated},
		{api.Gate{Want: 7, Cur: -9}, -9, true, api.Gate{Want: 7, Cur: -9}, api.VSent},
		{api.Gate{Want: math.MinInt, Cur: math.MaxInt}, math.MinInt, true, api.Gate{Want: math.MinInt, Cur: math.MinInt}, api.VSwitch},
		{api.Gate{Want: math.MinInt, Cur: math.MaxInt}, math.MaxInt, true, api.Gate{Want: math.MinInt, Cur: math.MaxInt}, api.VSent},
		{api.Gate{Want: 1, Cur: -1}, 1<<32 + 1, true, api.Gate{Want: 1, Cur: -1}, api.VGated},
		{api.Gate{Want: 1, Cur: 1}, 257, false, api.Gate{Want: 1, Cur: 1}, api.VGated},
	} {
		if next, v := Take(x.g, x.layer, x.key); next != x.want || v != x.v {
			t.Errorf("Take(%+v, %d, %v) = %+v, %d, want %+v, %d", x.g, x.layer, x.key, next, v, x.want, x.v)
		}
	}
}

// What stands in each field behind Pause and Mute, written out.
func TestPauseMuteFields(t *testing.T) {
	for _, x := range []struct {
		g, on, off, muteOn, muteOff api.Gate
	}{
		{
			api.Gate{Want: 2, Cur: 1},
			api.Gate{Want: 2, Cur: -1, Paused: true}, api.Gate{Want: 2, Cur: 1},
			api.Gate{Want: 2, Cur: -1, Muted: true}, api.Gate{Want: 2, Cur: 1},
		},
		{
			api.Gate{Want: 2, Cur: 1, Paused: true},
			api.Gate{Want: 2, Cur: -1, Paused: true}, api.Gate{Want: 2, Cur: 1},
			api.Gate{Want: 2, Cur: -1, Paused: true, Muted: true}, api.Gate{Want: 2, Cur: 1, Paused: true},
		},
		{
			api.Gate{Want: 2, Cur: 1, Muted: true},
			api.Gate{Want: 2, Cur: -1, Paused: true, Muted: true}, api.Gate{Want: 2, Cur: 1, Muted: true},
			api.Gate{Want: 2, Cur: -1, Muted: true}, api.Gate{Want: 2, Cur: 1},
		},
		{
			api.Gate{Want: 9, Cur: -7, Paused: true, Muted: true},
			api.Gate{Want: 9, Cur: -1, Paused: true, Muted: true}, api.Gate{Want: 9, Cur: -7, Muted: true},
			api.Gate{Want: 9, Cur: -1, Paused: true, Muted: true}, api.Gate{Want: 9, Cur: -7, Paused: true},
		},
		{
			api.Gate{Want: 0, Cur: 0},
			api.Gate{Cur: -1, Paused: true}, api.Gate{},
			api.Gate{Cur: -1, Muted: true}, api.Gate{},
		},
	} {
		if Pause(x.g, true) != x.on || Pause(x.g, false) != x.off {
			t.Errorf("Pause(%+v) = on %+v, off %+v", x.g, Pause(x.g, true), Pause(x.g, false))
		}
		if Mute(x.g, true) != x.muteOn || Mute(x.g, false) != x.muteOff {
			t.Errorf("Mute(%+v) = on %+v, off %+v", x.g, Mute(x.g, true), Mute(x.g, false))
		}
	}
}

// What stands in each field behind Want, written out.
func TestWantFields(t *testing.T) {
	for _, x := range []struct {
		g     api.Gate
		layer int
		want  api.Gate
	}{
		{api.Gate{Want: 1, Cur: 1}, 0, api.Gate{Want: 0, Cur: 1}},
		{api.Gate{Want: 1, Cur: 1}, 1, api.Gate{Want: 1, Cur: 1}},
		{api.Gate{Want: 1, Cur: 1}, 2, api.Gate{Want: 2, Cur: 1}},
		{api.Gate{Want: 1, Cur: 1}, 3, api.Gate{Want: 2, Cur: 1}},
		{api.Gate{Want: 1, Cur: 1}, math.MaxInt, api.Gate{Want: 2, Cur: 1}},
		{api.Gate{Want: 1, Cur: 1}, -1, api.Gate{Want: 0, Cur: 1}},
		{api.Gate{Want: 1, Cur: 1}, math.MinInt, api.Gate{Want: 0, Cur: 1}},
		{api.Gate{Want: 0, Cur: -1, Paused: true}, 2, api.Gate{Want: 2, Cur: -1, Paused: true}},
		{api.Gate{Want: 0, Cur: -1, Muted: true}, 2, api.Gate{Want: 2, Cur: -1, Muted: true}},
		{api.Gate{Want: 9, Cur: 9, Paused: true, Muted: true}, 9, api.Gate{Want: 2, Cur: 9, Paused: true, Muted: true}},
		{api.Gate{Want: -9, Cur: -9}, -9, api.Gate{Want: 0, Cur: -9}},
	} {
		if next := Want(x.g, x.layer); next != x.want {
			t.Errorf("Want(%+v, %d) = %+v, want %+v", x.g, x.layer, next, x.want)
		}
	}
}

func TestQuietAsks(t *testing.T) {
	for _, x := range []struct {
		g           api.Gate
		quiet, asks bool
	}{
		{api.Gate{Want: 1, Cur: -1}, false, true},
		{api.Gate{Want: 1, Cur: 0}, false, true},
		{api.Gate{Want: 1, Cur: 1}, false, false},
		{api.Gate{Want: 1, Cur: 2}, false, true},
		{api.Gate{}, false, false},
		{api.Gate{Want: 2, Cur: 2}, false, false},
		{api.Gate{Want: 1, Cur: -1, Paused: true}, true, false},
		{api.Gate{Want: 1, Cur: -1, Muted: true}, true, false},
		{api.Gate{Want: 1, Cur: -1, Paused: true, Muted: true}, true, false},
		{api.Gate{Want: 1, Cur: 1, Paused: true}, true, false},
		{api.Gate{Want: 1, Cur: 0, Muted: true}, true, false},
		{api.Gate{Want: -1, Cur: -1}, false, false},
		{api.Gate{Want: 9, Cur: 9}, false, false},
		{api.Gate{Want: 9, Cur: 2}, false, true},
		{api.Gate{Want: math.MaxInt, Cur: math.MinInt}, false, true},
	} {
		if q, a := Quiet(x.g), Asks(x.g); q != x.quiet || a != x.asks {
			t.Errorf("%+v: Quiet %v, Asks %v", x.g, q, a)
		}
	}
}

// Edges in all fields and in what comes in, at every call.
func TestEveryEdge(t *testing.T) {
	for _, g := range gates() {
		tell(t, g)
		for _, on := range both {
			pause(t, g, on)
			mute(t, g, on)
		}
		for _, layer := range edges() {
			wish(t, g, layer)
			for _, key := range both {
				take(t, g, layer, key)
			}
		}
	}
}

// Take changes nothing but Cur, and that in a switch alone.
func TestTakeChangesCurAlone(t *testing.T) {
	for _, g := range gates() {
		for _, layer := range edges() {
			for _, key := range both {
				next, v := Take(g, layer, key)
				if v != api.VSwitch && next != g {
					t.Fatalf("Take(%+v, %d, %v) = %+v, %d", g, layer, key, next, v)
				}
				next.Cur = g.Cur
				if next != g {
					t.Fatalf("Take(%+v, %d, %v) changes more than Cur", g, layer, key)
				}
			}
		}
	}
}

// From New on each layer begins with its key frame, goes on with and without one, and keeps the others out.
func TestEachLayer(t *testing.T) {
	for want := range 3 {
		g := New(want)
		for layer := range 3 {
			g = goes(t, g, layer, false, api.VGated, -1)
			if layer != want {
				g = goes(t, g, layer, true, api.VGated, -1)
			}
		}
		if !Asks(g) {
			t.Fatal(g)
		}
		g = goes(t, g, want, true, api.VSwitch, want)
		if Asks(g) {
			t.Fatal(g)
		}
		for layer := -2; layer < 5; layer++ {
			v := api.VGated
			if layer == want {
				v = api.VSent
			}
			g = goes(t, g, layer, false, v, want)
			g = goes(t, g, layer, true, v, want)
		}
		// It is the one that goes on already: to want it again changes nothing.
		if again := wish(t, g, want); again != g || Asks(again) {
			t.Fatal(g, again)
		}
	}
}

// From each layer to each other one: the elder goes on, with key frames of its own too, until the other's key frame.
func TestSwitch(t *testing.T) {
	for from := range 3 {
		for to := range 3 {
			if to == from {
				continue
			}
			third := 3 - from - to
			g := goes(t, New(from), from, true, api.VSwitch, from)
			g = wish(t, g, to)
			if !Asks(g) {
				t.Fatal(g)
			}
			for range 2 {
				g = goes(t, g, from, false, api.VSent, from)
				g = goes(t, g, from, true, api.VSent, from)
				g = goes(t, g, to, false, api.VGated, from)
				g = goes(t, g, third, true, api.VGated, from)
				g = goes(t, g, third, false, api.VGated, from)
			}
			g = goes(t, g, to, true, api.VSwitch, to)
			if Asks(g) {
				t.Fatal(g)
			}
			g = goes(t, g, from, true, api.VGated, to)
			g = goes(t, g, to, false, api.VSent, to)
			goes(t, g, to, true, api.VSent, to)
		}
	}
}

// A layer that is left and wanted again ahead of the other's key frame has gone on all the while: no switch, no key frame.
func TestWantedAgain(t *testing.T) {
	for from := range 3 {
		for to := range 3 {
			if to == from {
				continue
			}
			g := goes(t, New(from), from, true, api.VSwitch, from)
			was := g
			g = wish(t, g, to)
			g = goes(t, g, from, false, api.VSent, from)
			g = wish(t, g, from)
			if g != was || Asks(g) {
				t.Fatal(was, g)
			}
			g = goes(t, g, to, true, api.VGated, from)
			g = goes(t, g, from, false, api.VSent, from)
			g = goes(t, g, from, true, api.VSent, from)
			// And once it has been left, it needs its key frame again.
			g = goes(t, wish(t, g, to), to, true, api.VSwitch, to)
			g = wish(t, g, from)
			g = goes(t, g, from, false, api.VGated, to)
			g = goes(t, g, to, false, api.VSent, to)
			goes(t, g, from, true, api.VSwitch, from)
		}
	}
}

// Two wishes ahead of a key frame: the last one counts.
func TestLastWantCounts(t *testing.T) {
	g := goes(t, New(0), 0, true, api.VSwitch, 0)
	g = wish(t, wish(t, g, 1), 2)
	g = goes(t, g, 1, true, api.VGated, 0)
	g = goes(t, g, 0, false, api.VSent, 0)
	g = goes(t, g, 2, true, api.VSwitch, 2)
	g = wish(t, g, math.MinInt)
	g = goes(t, g, 0, true, api.VSwitch, 0)
	g = wish(t, g, math.MaxInt)
	goes(t, g, 2, true, api.VSwitch, 2)
}

// The two stops, by which one stands for both below.
type stop func(*testing.T, api.Gate, bool) api.Gate

func stops() []stop {
	return []stop{pause, mute}
}

// Behind a stop the layer begins anew, with a key frame.
func TestStop(t *testing.T) {
	for _, stop := range stops() {
		for want := range 3 {
			g := goes(t, New(want), want, true, api.VSwitch, want)
			g = stop(t, g, true)
			for layer := -1; layer < 4; layer++ {
				g = goes(t, g, layer, true, api.VQuiet, -1)
				g = goes(t, g, layer, false, api.VQuiet, -1)
			}
			if !Quiet(g) || Asks(g) {
				t.Fatal(g)
			}
			g = stop(t, g, false)
			if Quiet(g) || !Asks(g) {
				t.Fatal(g)
			}
			g = goes(t, g, want, false, api.VGated, -1)
			g = goes(t, g, want, true, api.VSwitch, want)
			goes(t, g, want, false, api.VSent, want)
		}
	}
}

// A stop that is told again while it lasts, and its end that is told again.
func TestStopAgain(t *testing.T) {
	for _, stop := range stops() {
		g := goes(t, New(1), 1, true, api.VSwitch, 1)
		// The end of what has not begun leaves the layer that goes on.
		if same := stop(t, g, false); same != g {
			t.Fatal(g, same)
		}
		g = stop(t, g, true)
		if same := stop(t, g, true); same != g {
			t.Fatal(g, same)
		}
		g = stop(t, g, false)
		if same := stop(t, g, false); same != g {
			t.Fatal(g, same)
		}
		g = goes(t, g, 1, true, api.VSwitch, 1)
		g = stop(t, g, false)
		goes(t, g, 1, false, api.VSent, 1)
	}
}

// A stop within the other one: it is quiet until both have ended, whichever ends first.
func TestStopWithinStop(t *testing.T) {
	for i, outer := range stops() {
		inner := stops()[1-i]
		for _, ends := range [][2]stop{{outer, inner}, {inner, outer}} {
			first, last := ends[0], ends[1]
			g := goes(t, New(2), 2, true, api.VSwitch, 2)
			g = outer(t, g, true)
			g = inner(t, g, true)
			if g != (api.Gate{Want: 2, Cur: -1, Paused: true, Muted: true}) {
				t.Fatal(g)
			}
			g = goes(t, g, 2, true, api.VQuiet, -1)
			g = first(t, g, false)
			if !Quiet(g) || Asks(g) || g.Paused == g.Muted {
				t.Fatal(g)
			}
			g = goes(t, g, 2, true, api.VQuiet, -1)
			g = last(t, g, false)
			if g != New(2) {
				t.Fatal(g)
			}
			g = goes(t, g, 2, false, api.VGated, -1)
			goes(t, g, 2, true, api.VSwitch, 2)
		}
	}
}

// What is wanted while it is quiet holds behind it.
func TestWantWithinStop(t *testing.T) {
	for _, stop := range stops() {
		g := goes(t, New(0), 0, true, api.VSwitch, 0)
		g = wish(t, stop(t, g, true), 2)
		if Asks(g) {
			t.Fatal(g)
		}
		g = goes(t, g, 2, true, api.VQuiet, -1)
		g = stop(t, g, false)
		g = goes(t, g, 0, true, api.VGated, -1)
		g = goes(t, g, 0, false, api.VGated, -1)
		goes(t, g, 2, true, api.VSwitch, 2)
	}
}

// A packet of layer -1, where no layer goes on, is one of the layer Cur: the words hold as they stand. Its key begins nothing.
func TestLayerBelow(t *testing.T) {
	began := goes(t, New(1), 1, true, api.VSwitch, 1)
	for _, g := range []api.Gate{New(1), New(-1), pause(t, pause(t, began, true), false), mute(t, mute(t, began, true), false)} {
		for _, key := range both {
			if next := goes(t, g, -1, key, api.VSent, -1); next != g || !Asks(next) {
				t.Fatal(g, next)
			}
		}
	}
	for _, key := range both {
		goes(t, began, -1, key, api.VGated, 1)
		goes(t, pause(t, began, true), -1, key, api.VQuiet, -1)
		goes(t, mute(t, New(1), true), -1, key, api.VQuiet, -1)
	}
}

// Long rows of packets of all layers, with Want, Pause and Mute between; what is sent is followed from outside too.
func TestRows(t *testing.T) {
	var seen [5]int
	for seed := range 60 {
		d := dice(seed)
		g := New(d.throw(5) - 1)
		open := -1 // the layer whose key frame has begun, and that nothing has cut since
		for range 3000 {
			switch d.throw(12) {
			case 0:
				g = wish(t, g, d.throw(7)-2)
			case 1:
				on := d.throw(3) == 0
				g = pause(t, g, on)
				if on {
					open = -1
				}
			case 2:
				on := d.throw(3) == 0
				g = mute(t, g, on)
				if on {
					open = -1
				}
			default:
				layer, key := d.throw(3), d.throw(3) == 0
				var v int
				g, v = take(t, g, layer, key)
				seen[v]++
				if v == api.VSwitch {
					if !key || layer == open || layer != g.Want {
						t.Fatal("switch", layer, key, open, g)
					}
					open = layer
				}
				if (v == api.VSent || v == api.VSwitch) && layer != open {
					t.Fatal("sent", layer, open, g)
				}
				if g.Cur != open {
					t.Fatal("open", open, g)
				}
			}
		}
	}
	for v := api.VSent; v <= api.VQuiet; v++ {
		if seen[v] < 3000 {
			t.Error("rows too tame", seen)
		}
	}
}

// Two Gates have nothing in common, and from one Gate more than one may go on.
func TestTwoGates(t *testing.T) {
	d := dice(7)
	all := [3]api.Gate{New(0), New(0), New(2)}
	for k := range 3000 {
		i, was := d.throw(len(all)), all
		switch d.throw(6) {
		case 0:
			all[i] = wish(t, all[i], d.throw(3))
		case 1:
			all[i] = pause(t, all[i], d.throw(3) == 0)
		case 2:
			all[i] = mute(t, all[i], d.throw(3) == 0)
		default:
			all[i], _ = take(t, all[i], d.throw(3), d.throw(2) == 0)
		}
		for j := range all {
			if j != i && all[j] != was[j] {
				t.Fatal(k, i, j, all)
			}
		}
	}
	g := New(1)
	a := goes(t, g, 1, true, api.VSwitch, 1)
	b := goes(t, wish(t, g, 0), 0, true, api.VSwitch, 0)
	goes(t, a, 1, false, api.VSent, 1)
	goes(t, b, 1, false, api.VGated, 0)
	goes(t, g, 1, false, api.VGated, -1)
}

func ExampleTake() {
	g := New(0)
	for _, x := range []struct {
		layer int
		key   bool
	}{{0, false}, {0, true}, {0, false}, {2, true}} {
		var v int
		g, v = Take(g, x.layer, x.key)
		fmt.Println(x.layer, x.key, v, g.Cur)
	}
	g = Want(g, 2)
	fmt.Println(Asks(g))
	g, v := Take(g, 2, true)
	fmt.Println(2, true, v, g.Cur)
	// Output:
	// 0 false 3 -1
	// 0 true 2 0
	// 0 false 1 0
	// 2 true 3 0
	// true
	// 2 true 2 2
}
