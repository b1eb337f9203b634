package rtcp

import (
	"fmt"
	"math"
	"reflect"
	"slices"
	"testing"

	"sluicegate/api"
)

// The makers give items in which no two neighbouring bytes are the same, so that none can stand for another.

func blocksOf(n int) []api.Block {
	var list []api.Block
	for i := range n {
		x := uint32(i) * 0x01010101
		list = append(list, api.Block{Ssrc: 0x01020304 + x, Lost: uint8(5 + i), Total: 0x060708 + x&0xffff, High: 0x090a0b0c + x, Jitter: 0x0d0e0f10 + x, Last: 0x11121314 + x, Delay: 0x15161718 + x})
	}
	return list
}

func senderOf(n int) api.Item {
	return api.Item{Kind: 200, Ssrc: 0xa1a2a3a4, Ntp: 0xb1b2b3b4b5b6b7b8, Time: 0xc1c2c3c4, Packets: 0xd1d2d3d4, Octets: 0xe1e2e3e4, Blocks: blocksOf(n)}
}

func receiverOf(n int) api.Item {
	return api.Item{Kind: 201, Ssrc: 0xa5a6a7a8, Blocks: blocksOf(n)}
}

func byeOf(n int) api.Item {
	i := api.Item{Kind: 203}
	for k := range n {
		i.Gone = append(i.Gone, 0x21222324+uint32(k)*0x04040404)
	}
	return i
}

func againOf(n int) api.Item {
	i := api.Item{Kind: 205, Ssrc: 0x31323334, Media: 0x35363738}
	for k := range n {
		i.Pairs = append(i.Pairs, api.Pair{Pid: 0x4142 + uint16(k)*0x0404, Blp: 0x4344 + uint16(k)*0x0404})
	}
	return i
}

func pictureOf(n int) api.Item {
	return api.Item{Kind: 206, Ssrc: 0x51525354 + uint32(n), Media: 0x55565758 + uint32(n)}
}

// rightItems are of each kind and of every number of what they list, with small and great numbers.
func rightItems() []api.Item {
	const most = math.MaxUint32
	list := []api.Item{
		{Kind: 200}, {Kind: 201}, {Kind: 206}, {Kind: 201, Ssrc: most},
		{Kind: 200, Ssrc: most, Ntp: math.MaxUint64, Time: most, Packets: most, Octets: most},
		{Kind: 201, Blocks: []api.Block{{Ssrc: most, Lost: 255, Total: 1<<24 - 1, High: most, Jitter: most, Last: most, Delay: most}}},
		{Kind: 203, Gone: []uint32{0}}, {Kind: 203, Gone: []uint32{most}}, {Kind: 203, Gone: []uint32{1, 1}}, {Kind: 203, Gone: []uint32{0, 1, most, 0}},
		{Kind: 205, Pairs: []api.Pair{{}}}, {Kind: 205, Pairs: []api.Pair{{Pid: 1}}}, {Kind: 205, Pairs: []api.Pair{{Blp: 1}}}, {Kind: 205, Ssrc: 1, Pairs: []api.Pair{{}}}, {Kind: 205, Media: 1, Pairs: []api.Pair{{}}},
		{Kind: 205, Ssrc: most, Media: most, Pairs: []api.Pair{{Pid: 65535, Blp: 65535}, {}, {Pid: 65535}, {Blp: 65535}}},
		{Kind: 206, Ssrc: 1}, {Kind: 206, Media: 1}, {Kind: 206, Ssrc: most, Media: most}, pictureOf(0), pictureOf(1),
	}
	for n := range 16 {
		list = append(list, senderOf(n), receiverOf(n), byeOf(n+1), againOf(n+1))
	}
	return slices.DeleteFunc(list, func(i api.Item) bool { return len(i.Gone) == 16 })
}

// oneEach is an item of each kind, that may be, with as little in it as may be.
func oneEach() []api.Item {
	return []api.Item{{Kind: 200}, {Kind: 201}, {Kind: 203, Gone: []uint32{7}}, {Kind: 205, Pairs: []api.Pair{{Pid: 3, Blp: 4}}}, {Kind: 206}}
}

// fields are the fields that not every kind has, and the kinds that have them, as api names them; set gives one a value that is not zero.
var fields = []struct {
	name  string
	kinds []int
	set   func(i *api.Item)
}{
	{"Ssrc", []int{200, 201, 205, 206}, func(i *api.Item) { i.Ssrc = 1 }},
	{"Ssrc, high", []int{200, 201, 205, 206}, func(i *api.Item) { i.Ssrc = 1 << 31 }},
	{"Ntp", []int{200}, func(i *api.Item) { i.Ntp = 1 }},
	{"Ntp, high", []int{200}, func(i *api.Item) { i.Ntp = 1 << 63 }},
	{"Time", []int{200}, func(i *api.Item) { i.Time = 1 }},
	{"Time, high", []int{200}, func(i *api.Item) { i.Time = 1 << 31 }},
	{"Packets", []int{200}, func(i *api.Item) { i.Packets = 1 }},
	{"Packets, high", []int{200}, func(i *api.Item) { i.Packets = 1 << 31 }},
	{"Octets", []int{200}, func(i *api.Item) { i.Octets = 1 }},
	{"Octets, high", []int{200}, func(i *api.Item) { i.Octets = 1 << 31 }},
	{"Blocks", []int{200, 201}, func(i *api.Item) { i.Blocks = blocksOf(1) }},
	{"Blocks, a zero one", []int{200, 201}, func(i *api.Item) { i.Blocks = make([]api.Block, 1) }},
	{"Gone", []int{203}, func(i *api.Item) { i.Gone = []uint32{9, 10} }},
	{"Gone, a zero one", []int{203}, func(i *api.Item) { i.Gone = []uint32{0} }},
	{"Media", []int{205, 206}, func(i *api.Item) { i.Media = 1 }},
	{"Media, high", []int{205, 206}, func(i *api.Item) { i.Media = 1 << 31 }},
	{"Pairs", []int{205}, func(i *api.Item) { i.Pairs = []api.Pair{{Pid: 9, Blp: 9}} }},
	{"Pairs, a zero one", []int{205}, func(i *api.Item) { i.Pairs = make([]api.Pair, 1) }},
}

// wrongItems are each wrong in one thing.
func wrongItems() []api.Item {
	list := []api.Item{{}, {Kind: 203}, {Kind: 203, Gone: []uint32{}}, {Kind: 205}, {Kind: 205, Ssrc: 1, Media: 2}, {Kind: 205, Pairs: []api.Pair{}}}
	for _, n := range []int{16, 17, 31, 32, 33, 256, 257, 1 << 16} {
		list = append(list, api.Item{Kind: 200, Blocks: make([]api.Block, n)}, api.Item{Kind: 201, Blocks: make([]api.Block, n)}, api.Item{Kind: 203, Gone: make([]uint32, n)})
		list = append(list, api.Item{Kind: 205, Pairs: make([]api.Pair, n+1)})
	}
	for _, total := range []uint32{1 << 24, math.MaxUint32} {
		list = append(list, api.Item{Kind: 200, Blocks: []api.Block{{Total: total}}}, api.Item{Kind: 201, Blocks: []api.Block{{}, {Total: total}}})
	}
	for _, i := range oneEach() {
		for _, f := range fields {
			if !slices.Contains(f.kinds, i.Kind) {
				wrong := i
				f.set(&wrong)
				list = append(list, wrong)
			}
		}
		for _, kind := range wrongKinds() {
			wrong := i
			wrong.Kind = kind
			list = append(list, wrong)
		}
	}
	return list
}

// wrongKinds are beside the five, some of them equal to one in their low bits.
func wrongKinds() []int {
	list := []int{math.MinInt, 200 - 256, 203 - 256, 205 - 256, 206 - 256, -203, -205, 203 + 256, 205 + 256, 206 + 256, 205 + 1<<16, 206 + 1<<32, 203 + 1<<62, math.MaxInt}
	for kind := -2; kind < 260; kind++ {
		if !slices.Contains([]int{200, 201, 203, 205, 206}, kind) {
			list = append(list, kind)
		}
	}
	return list
}

func twoBytes(n uint16) []byte {
	return []byte{byte(n / 256), byte(n % 256)}
}

func fourBytes(n uint32) []byte {
	return append(twoBytes(uint16(n/65536)), twoBytes(uint16(n%65536))...)
}

// wantBytes are an item's bytes as the chapters tell them, part behind part.
func wantBytes(i api.Item) []byte {
	var rest []byte
	low := 1
	switch i.Kind {
	case 203:
		low = len(i.Gone)
		for _, ssrc := range i.Gone {
			rest = append(rest, fourBytes(ssrc)...)
		}
	case 205, 206:
		rest = slices.Concat(fourBytes(i.Ssrc), fourBytes(i.Media))
		for _, p := range i.Pairs {
			rest = slices.Concat(rest, twoBytes(p.Pid), twoBytes(p.Blp))
		}
	default:
		low = len(i.Blocks)
		rest = reportBytes(i)
	}
	words := len(rest) / 4
	return append([]byte{byte(128 + low), byte(i.Kind), byte(words / 256), byte(words % 256)}, rest...)
}

// reportBytes are a report's bytes behind the first four.
func reportBytes(i api.Item) []byte {
	rest := fourBytes(i.Ssrc)
	if i.Kind == 200 {
		rest = slices.Concat(rest, fourBytes(uint32(i.Ntp/(1<<32))), fourBytes(uint32(i.Ntp%(1<<32))), fourBytes(i.Time), fourBytes(i.Packets), fourBytes(i.Octets))
	}
	for _, k := range i.Blocks {
		rest = slices.Concat(rest, fourBytes(k.Ssrc), []byte{k.Lost}, fourBytes(k.Total)[1:], fourBytes(k.High), fourBytes(k.Jitter), fourBytes(k.Last), fourBytes(k.Delay))
	}
	return rest
}

func wantRow(l []api.Item) []byte {
	var b []byte
	for _, i := range l {
		b = append(b, wantBytes(i)...)
	}
	return b
}

// same holds items against each other; a nil list is an empty one.
func same(l, m []api.Item) bool {
	return slices.EqualFunc(l, m, func(i, j api.Item) bool {
		if !slices.Equal(i.Blocks, j.Blocks) || !slices.Equal(i.Gone, j.Gone) || !slices.Equal(i.Pairs, j.Pairs) {
			return false
		}
		i.Blocks, i.Gone, i.Pairs = nil, nil, nil
		j.Blocks, j.Gone, j.Pairs = nil, nil, nil
		return reflect.DeepEqual(i, j)
	})
}

// told asks that items are put as so many bytes, and read as they were.
func told(t *testing.T, l []api.Item, want []byte) {
	t.Helper()
	if n := Size(l); n != len(want) {
		t.Errorf("Size(%+v) = %d, want %d", l, n, len(want))
	}
	if b, e := Put(l); e != api.OK || !slices.Equal(b, want) {
		t.Errorf("Put(%+v) = %v, %d, want %v", l, b, e, want)
	}
	if got, e := Get(want); e != api.OK || !same(got, l) {
		t.Errorf("Get(%v) = %+v, %d, want %+v", want, got, e, l)
	}
}

// notPut asks for an error with nothing beside it.
func notPut(t *testing.T, l []api.Item, want api.Errno) {
	t.Helper()
	if b, e := Put(l); e != want || b != nil {
		t.Errorf("Put of %d items = %v, %d, want %d", len(l), b, e, want)
	}
}

// refused asks for an error with nothing beside it.
func refused(t *testing.T, b []byte, want api.Errno) {
	t.Helper()
	if l, e := Get(b); e != want || l != nil {
		t.Errorf("Get(%v) = %+v, %d, want %d", b, l, e, want)
	}
}

func TestMay(t *testing.T) {
	for _, i := range rightItems() {
		if !May(i) {
			t.Errorf("refused: %+v", i)
		}
	}
	for _, i := range wrongItems() {
		if May(i) {
			t.Errorf("let in: %+v", i)
		}
	}
}

// Every field is held against every kind: it may be there just where api names it.
func TestMayEachField(t *testing.T) {
	for _, i := range oneEach() {
		for _, f := range fields {
			other := i
			f.set(&other)
			if May(other) != slices.Contains(f.kinds, i.Kind) {
				t.Error(i.Kind, f.name)
			}
		}
	}
}

func TestMayEveryCount(t *testing.T) {
	for n := range 300 {
		if May(api.Item{Kind: 200, Blocks: make([]api.Block, n)}) != (n <= 15) || May(api.Item{Kind: 201, Blocks: make([]api.Block, n)}) != (n <= 15) {
			t.Error("blocks", n)
		}
		if May(api.Item{Kind: 203, Gone: make([]uint32, n)}) != (n >= 1 && n <= 15) {
			t.Error("gone", n)
		}
		if May(api.Item{Kind: 205, Pairs: make([]api.Pair, n)}) != (n >= 1 && n <= 16) {
			t.Error("pairs", n)
		}
		if May(api.Item{Kind: 206, Pairs: make([]api.Pair, n)}) != (n == 0) || May(api.Item{Kind: 206, Gone: make([]uint32, n)}) != (n == 0) {
			t.Error("picture", n)
		}
	}
}

func TestSizeEachItem(t *testing.T) {
	for n := range 16 {
		if a, b := Size([]api.Item{senderOf(n)}), Size([]api.Item{receiverOf(n)}); a != 28+24*n || b != 8+24*n {
			t.Error("reports", n, a, b)
		}
		if a := Size([]api.Item{byeOf(n)}); n > 0 && a != 4+4*n || n == 0 && a != 0 {
			t.Error("gone", n, a)
		}
		if a := Size([]api.Item{againOf(n + 1)}); a != 16+4*n {
			t.Error("pairs", n+1, a)
		}
	}
	if a := Size([]api.Item{pictureOf(0)}); a != 12 {
		t.Error("picture", a)
	}
	if a, b, c := Size(nil), Size([]api.Item{}), Size(make([]api.Item, 1)); a != 0 || b != 0 || c != 0 {
		t.Error("none:", a, b, c)
	}
}

// Size asks neither for eight items at most nor for 512 bytes.
func TestSizeOfMany(t *testing.T) {
	for _, n := range []int{8, 9, 10, 512, 1 << 16} {
		if a, b := Size(slices.Repeat([]api.Item{pictureOf(1)}, n)), Size(slices.Repeat([]api.Item{senderOf(15)}, n)); a != 12*n || b != 388*n {
			t.Error(n, a, b)
		}
	}
	all := rightItems()
	if n := Size(all); n != len(wantRow(all)) {
		t.Error("all that may be:", n)
	}
}

func TestSizeOneMayNot(t *testing.T) {
	for _, wrong := range wrongItems() {
		for at := range 4 {
			l := slices.Insert([]api.Item{byeOf(1), pictureOf(0), receiverOf(1)}, at, wrong)
			if n := Size(l); n != 0 {
				t.Errorf("%d beside %+v", n, wrong)
			}
		}
	}
}

func TestBytes(t *testing.T) {
	for _, c := range []struct {
		l    []api.Item
		want []byte
	}{
		{[]api.Item{{Kind: 201, Ssrc: 0x01020304}}, []byte{128, 201, 0, 1, 1, 2, 3, 4}},
		{[]api.Item{{Kind: 200, Ssrc: 0x01020304, Ntp: 0x05060708090a0b0c, Time: 0x0d0e0f10, Packets: 0x11121314, Octets: 0x15161718}},
			[]byte{128, 200, 0, 6, 1, 2, 3, 4, 5, 6, 7, 8, 9, 10, 11, 12, 13, 14, 15, 16, 17, 18, 19, 20, 21, 22, 23, 24}},
		{[]api.Item{{Kind: 203, Gone: []uint32{0x01020304}}}, []byte{129, 203, 0, 1, 1, 2, 3, 4}},
		{[]api.Item{{Kind: 203, Gone: []uint32{0x01020304, 0x05060708, 0xffffffff}}}, []byte{131, 203, 0, 3, 1, 2, 3, 4, 5, 6, 7, 8, 255, 255, 255, 255}},
		{[]api.Item{{Kind: 205, Ssrc: 0x01020304, Media: 0x05060708, Pairs: []api.Pair{{Pid: 0x090a, Blp: 0x0b0c}}}}, []byte{129, 205, 0, 3, 1, 2, 3, 4, 5, 6, 7, 8, 9, 10, 11, 12}},
		{[]api.Item{{Kind: 205, Ssrc: 0x01020304, Media: 0x05060708, Pairs: []api.Pair{{Pid: 0x090a, Blp: 0x0b0c}, {Pid: 0x0d0e, Blp: 0x0f10}}}}, []byte{129, 205, 0, 4, 1, 2, 3, 4, 5, 6, 7, 8, 9, 10, 11, 12, 13, 14, 15, 16}},
		{[]api.Item{{Kind: 206, Ssrc: 0x01020304, Media: 0x05060708}}, []byte{129, 206, 0, 2, 1, 2, 3, 4, 5, 6, 7, 8}},
		{[]api.Item{{Kind: 206, Ssrc: 1}, {Kind: 203, Gone: []uint32{2}}, {Kind: 201, Ssrc: 3}}, []byte{129, 206, 0, 2, 0, 0, 0, 1, 0, 0, 0, 0, 129, 203, 0, 1, 0, 0, 0, 2, 128, 201, 0, 1, 0, 0, 0, 3}},
	} {
		told(t, c.l, c.want)
	}
}

func TestFirstFourOfEach(t *testing.T) {
	for n := 1; n <= 15; n++ {
		if b, _ := Put([]api.Item{byeOf(n)}); len(b) != 4+4*n || !slices.Equal(b[:4], []byte{byte(128 + n), 203, 0, byte(n)}) {
			t.Error("gone", n, b)
		}
	}
	for n := 1; n <= 16; n++ {
		if b, _ := Put([]api.Item{againOf(n)}); len(b) != 12+4*n || !slices.Equal(b[:4], []byte{129, 205, 0, byte(2 + n)}) {
			t.Error("pairs", n, b)
		}
	}
}

func TestEachAlone(t *testing.T) {
	for _, i := range rightItems() {
		told(t, []api.Item{i}, wantBytes(i))
	}
}

func TestEachTwo(t *testing.T) {
	for _, i := range rightItems() {
		for _, j := range rightItems() {
			l := []api.Item{i, j}
			want := wantRow(l)
			if len(want) > 512 {
				notPut(t, l, api.ErrRange)
				refused(t, want, api.ErrRange)
				continue
			}
			told(t, l, want)
		}
	}
}

// All orders of the five kinds, and rows of one to eight of one kind.
func TestRows(t *testing.T) {
	var orders func(ahead, left []api.Item)
	orders = func(ahead, left []api.Item) {
		if len(ahead) > 0 {
			told(t, ahead, wantRow(ahead))
		}
		for k := range left {
			orders(append(slices.Clone(ahead), left[k]), slices.Delete(slices.Clone(left), k, k+1))
		}
	}
	orders(nil, []api.Item{senderOf(1), receiverOf(2), byeOf(3), againOf(4), pictureOf(5)})
	for _, i := range []api.Item{senderOf(0), receiverOf(1), byeOf(1), byeOf(15), againOf(1), againOf(13), pictureOf(0)} {
		for n := 1; n <= 8; n++ {
			l := slices.Repeat([]api.Item{i}, n)
			told(t, l, wantRow(l))
		}
	}
}

func TestPutNotOneToEight(t *testing.T) {
	notPut(t, nil, api.ErrForm)
	notPut(t, []api.Item{}, api.ErrForm)
	for _, i := range oneEach() {
		told(t, slices.Repeat([]api.Item{i}, 8), slices.Repeat(wantBytes(i), 8))
		for _, n := range []int{9, 10, 16, 17, 256, 257, 1 << 12} {
			notPut(t, slices.Repeat([]api.Item{i}, n), api.ErrForm)
		}
	}
}

// Nine items are told ahead of more than 512 bytes; so is one that may not be.
func TestPutErrorsInOrder(t *testing.T) {
	notPut(t, slices.Repeat([]api.Item{senderOf(15)}, 9), api.ErrForm)
	notPut(t, slices.Repeat([]api.Item{senderOf(15)}, 8), api.ErrRange)
	notPut(t, make([]api.Item, 9), api.ErrForm)
	for _, wrong := range wrongItems() {
		notPut(t, []api.Item{wrong}, api.ErrForm)
		for at := range 4 {
			notPut(t, slices.Insert([]api.Item{byeOf(1), pictureOf(0), receiverOf(1)}, at, wrong), api.ErrForm)
		}
		for at := range 3 {
			notPut(t, slices.Insert([]api.Item{senderOf(15), receiverOf(15)}, at, wrong), api.ErrForm)
		}
	}
}

// rowsOf512 are items of just 512 bytes.
func rowsOf512() [][]api.Item {
	return [][]api.Item{
		{senderOf(15), againOf(16), byeOf(11)},
		{receiverOf(15), receiverOf(4), againOf(7)},
		append(slices.Repeat([]api.Item{byeOf(15)}, 7), byeOf(15)),
		{byeOf(15), byeOf(15), byeOf(15), byeOf(15), againOf(13), againOf(13), againOf(13), againOf(13)},
	}
}

func TestUpTo512(t *testing.T) {
	for k, l := range rowsOf512() {
		if len(wantRow(l)) != 512 {
			t.Fatal("the test is wrong:", k, len(wantRow(l)))
		}
		told(t, l, wantRow(l))
		for at, i := range l {
			more := slices.Clone(l)
			if i.Kind != 205 || len(i.Pairs) == 16 {
				continue
			}
			more[at] = againOf(len(i.Pairs) + 1)
			if n := Size(more); n != 516 {
				t.Error(n)
			}
			notPut(t, more, api.ErrRange)
			refused(t, wantRow(more), api.ErrRange)
			more[at] = againOf(len(i.Pairs) - 1)
			told(t, more, wantRow(more))
		}
		if len(l) < 8 {
			notPut(t, append(slices.Clone(l), byeOf(1)), api.ErrRange)
		}
	}
}

// More than 512 bytes are told ahead of all else, whatever they are.
func TestGetMoreThan512(t *testing.T) {
	long := append(wantRow(slices.Repeat([]api.Item{byeOf(15)}, 8)), 0)
	refused(t, long[:513], api.ErrRange)
	if l, e := Get(long[:512]); e != api.OK || len(l) != 8 {
		t.Error("512:", len(l), e)
	}
	refused(t, slices.Repeat(wantBytes(byeOf(1)), 65), api.ErrRange)
	refused(t, slices.Repeat(wantBytes(byeOf(1)), 64), api.ErrMore)
	for _, first := range []byte{0, 64, 128, 129, 192, 255} {
		for _, n := range []int{513, 514, 516, 1024, 65536, 1 << 20} {
			b := make([]byte, n)
			b[0] = first
			refused(t, b, api.ErrRange)
		}
	}
	refused(t, make([]byte, 512), api.ErrForm)
}

func TestGetNoByte(t *testing.T) {
	refused(t, nil, api.ErrShort)
	refused(t, []byte{}, api.ErrShort)
	refused(t, wantBytes(byeOf(1))[:0], api.ErrShort)
}

// A row that ends between two items is whole; anywhere else it is short, whatever is in the spare room behind it.
func TestGetEachBeginning(t *testing.T) {
	for _, l := range [][]api.Item{{senderOf(1), receiverOf(2), byeOf(3), againOf(4), pictureOf(5)}, {pictureOf(5), againOf(16), byeOf(15), receiverOf(0), senderOf(0)}, {byeOf(1), byeOf(1), againOf(1), againOf(1), pictureOf(0), pictureOf(1), receiverOf(0), receiverOf(0)}} {
		whole := wantRow(l)
		for to := range whole {
			var n int
			for n < len(l) && len(wantRow(l[:n])) < to {
				n++
			}
			if to > 0 && len(wantRow(l[:n])) == to {
				told(t, l[:n], whole[:to])
				continue
			}
			refused(t, whole[:to], api.ErrShort)
			refused(t, slices.Clone(whole[:to]), api.ErrShort)
		}
	}
}

// Fewer than four bytes behind an item are told ahead of what they are.
func TestGetFewerThanFourLeft(t *testing.T) {
	for _, i := range rightItems() {
		for _, tail := range [][]byte{{0}, {255}, {129}, {129, 203}, {0, 0}, {255, 255, 255}, {129, 203, 0}, {129, 7, 0}} {
			refused(t, append(wantBytes(i), tail...), api.ErrShort)
		}
	}
}

// A ninth item is told ahead of all else that is wrong with it, were it a single byte.
func TestGetNinth(t *testing.T) {
	for _, i := range oneEach() {
		eight := slices.Repeat(wantBytes(i), 8)
		if l, e := Get(eight); e != api.OK || !same(l, slices.Repeat([]api.Item{i}, 8)) {
			t.Error("eight:", l, e)
		}
		for _, tail := range [][]byte{{0}, {255, 255, 255}, {0, 0, 0, 0}, {129, 204, 0, 1}, {128, 203, 0, 0}, {129, 203, 0, 1}, wantBytes(i), wantRow(oneEach())} {
			refused(t, append(slices.Clone(eight), tail...), api.ErrMore)
		}
		// What is wrong with the eighth comes first.
		refused(t, slices.Concat(eight[:len(eight)/8*7], []byte{0, 0, 0, 0}, eight), api.ErrForm)
		refused(t, slices.Concat(eight[:len(eight)/8*7], []byte{129, 204, 0, 0}, eight), api.ErrKind)
	}
}

// Every first two bytes, with the words that fit them, all there and not.
func TestGetEveryFirstTwo(t *testing.T) {
	for first := range 256 {
		for second := range 256 {
			low := first % 32
			words := map[int]int{200: 6 + 6*low, 201: 1 + 6*low, 203: low, 205: 2 + 1, 206: 2}[second]
			b := make([]byte, 4+4*words)
			b[0], b[1], b[3] = byte(first), byte(second), byte(words)
			want := api.OK
			switch {
			case len(b) > 512:
				want = api.ErrRange
			case first < 128 || first > 159:
				want = api.ErrForm
			case !slices.Contains([]int{200, 201, 203, 205, 206}, second):
				want = api.ErrKind
			case (second == 205 || second == 206) && low != 1:
				want = api.ErrKind
			case low > 15 || second == 203 && low == 0:
				want = api.ErrForm
			}
			if want != api.OK {
				refused(t, b, want)
				continue
			}
			l, e := Get(b)
			if e != api.OK || len(l) != 1 || l[0].Kind != second {
				t.Fatal(first, second, l, e)
			}
			refused(t, b[:len(b)-1], api.ErrShort)
			refused(t, b[:4], api.ErrShort)
		}
	}
}

// Of every low bits and words: which may be, told ahead of bytes that are missing.
func TestGetEveryCountAndWords(t *testing.T) {
	all := make([]byte, 512)
	for _, kind := range []int{200, 201, 203, 205, 206} {
		for low := range 32 {
			for words := range 65536 {
				copy(all, []byte{byte(128 + low), byte(kind), byte(words / 256), byte(words % 256)})
				var ok bool
				want := api.ErrForm
				switch kind {
				case 200:
					ok = low <= 15 && words == 6+6*low
				case 201:
					ok = low <= 15 && words == 1+6*low
				case 203:
					ok = low >= 1 && low <= 15 && words == low
				case 205:
					ok = low == 1 && words >= 3 && words <= 18
				case 206:
					ok = low == 1 && words == 2
				}
				if kind >= 205 && low != 1 {
					want = api.ErrKind
				}
				if !ok {
					if l, e := Get(all); e != want || l != nil {
						t.Fatal(kind, low, words, e)
					}
					if l, e := Get(all[:4]); e != want || l != nil {
						t.Fatal(kind, low, words, e)
					}
					continue
				}
				size := 4 + 4*words
				l, e := Get(all[:size])
				if e != api.OK || len(l) != 1 || !slices.Equal(wantBytes(l[0]), all[:size]) {
					t.Fatal(kind, low, words, l, e)
				}
				refused(t, all[:size-1], api.ErrShort)
				refused(t, all[:4], api.ErrShort)
			}
		}
	}
}

func TestGetErrorsInOrder(t *testing.T) {
	for _, c := range []struct {
		b    []byte
		want api.Errno
	}{
		{[]byte{0, 0, 0}, api.ErrShort},
		{[]byte{0, 0, 0, 0}, api.ErrForm},
		{[]byte{1, 203, 0, 1}, api.ErrForm},
		{[]byte{65, 205, 0, 3}, api.ErrForm},
		{[]byte{161, 206, 0, 2}, api.ErrForm},
		{[]byte{193, 203, 0, 1}, api.ErrForm},
		{[]byte{225, 7, 255, 255}, api.ErrForm},
		{[]byte{0, 205, 0, 3}, api.ErrForm},
		{[]byte{159, 7, 255, 255}, api.ErrKind},
		{[]byte{129, 202, 0, 1}, api.ErrKind},
		{[]byte{129, 204, 0, 1}, api.ErrKind},
		{[]byte{129, 207, 0, 2}, api.ErrKind},
		{[]byte{128, 205, 0, 3}, api.ErrKind},
		{[]byte{130, 205, 0, 3}, api.ErrKind},
		{[]byte{145, 205, 255, 255}, api.ErrKind},
		{[]byte{128, 206, 0, 0}, api.ErrKind},
		{[]byte{143, 206, 0, 2}, api.ErrKind},
		{[]byte{129, 205, 0, 0}, api.ErrForm},
		{[]byte{129, 205, 0, 1}, api.ErrForm},
		{[]byte{129, 205, 0, 2}, api.ErrForm},
		{[]byte{129, 205, 0, 3}, api.ErrShort},
		{[]byte{129, 205, 0, 18}, api.ErrShort},
		{[]byte{129, 205, 0, 19}, api.ErrForm},
		{[]byte{129, 205, 1, 3}, api.ErrForm},
		{[]byte{129, 206, 0, 1}, api.ErrForm},
		{[]byte{129, 206, 0, 2}, api.ErrShort},
		{[]byte{129, 206, 0, 3}, api.ErrForm},
		{[]byte{129, 206, 1, 2}, api.ErrForm},
		{[]byte{128, 203, 0, 0}, api.ErrForm},
		{[]byte{128, 203, 0, 1}, api.ErrForm},
		{[]byte{129, 203, 0, 0}, api.ErrForm},
		{[]byte{129, 203, 0, 1}, api.ErrShort},
		{[]byte{129, 203, 0, 2}, api.ErrForm},
		{[]byte{143, 203, 0, 15}, api.ErrShort},
		{[]byte{144, 203, 0, 16}, api.ErrForm},
		{[]byte{144, 201, 0, 97}, api.ErrForm},
		{[]byte{128, 200, 0, 1}, api.ErrForm},
		{[]byte{128, 201, 0, 6}, api.ErrForm},
		{[]byte{143, 201, 0, 91}, api.ErrShort},
	} {
		refused(t, c.b, c.want)
		// The same is told of what stands behind others.
		for _, i := range oneEach() {
			refused(t, append(wantBytes(i), c.b...), c.want)
			refused(t, append(slices.Repeat(wantBytes(i), 7), c.b...), c.want)
		}
		// The first that is wrong counts, whatever comes behind it.
		if c.want != api.ErrShort {
			refused(t, append(slices.Clone(c.b), 0, 0, 0, 0, 129, 204), c.want)
		}
	}
}

// An item takes as many bytes as its words say, were they another item's.
func TestGetItemTakesItsBytes(t *testing.T) {
	// The bytes of a second farewell are the first one's second Gone.
	b := []byte{130, 203, 0, 2, 0, 0, 0, 7, 129, 203, 0, 1, 0, 0, 0, 8}
	refused(t, b, api.ErrForm)
	told(t, []api.Item{{Kind: 203, Gone: []uint32{7, 0x81cb0001}}}, b[:12])
}

// wantItems are Get's answer by the chapter's words, with what fits each kind told by a table.
func wantItems(b []byte) (l []api.Item, e api.Errno) {
	if len(b) > 512 {
		return nil, api.ErrRange
	}
	for len(l) == 0 || len(b) > 0 {
		size, e := wantSize(b, len(l))
		if e != api.OK {
			return nil, e
		}
		l = append(l, wantItem(b[:size]))
		b = b[size:]
	}
	return l, api.OK
}

// wantSize is how long the item is that b begins with, or what is wrong with it, when so many were read.
func wantSize(b []byte, read int) (int, api.Errno) {
	switch {
	case read == 8:
		return 0, api.ErrMore
	case len(b) < 4:
		return 0, api.ErrShort
	case b[0]/32 != 4:
		return 0, api.ErrForm
	}
	words, low := int(b[2])*256+int(b[3]), int(b[0])-128
	// Words of it alone, and of each that it lists; how many it lists at least and at most.
	rule, ok := map[byte][4]int{200: {6, 6, 0, 15}, 201: {1, 6, 0, 15}, 203: {0, 1, 1, 15}, 205: {2, 1, 1, 16}, 206: {2, 1, 0, 0}}[b[1]]
	if !ok || b[1] > 204 && low != 1 {
		return 0, api.ErrKind
	}
	count := low
	if b[1] > 204 {
		count = words - 2
	}
	if count < rule[2] || count > rule[3] || words != rule[0]+rule[1]*count {
		return 0, api.ErrForm
	}
	if len(b)/4 <= words {
		return 0, api.ErrShort
	}
	return 4 * (words + 1), api.OK
}

// wantItem is the item that bytes which are right are.
func wantItem(b []byte) api.Item {
	word := func(at int) uint32 {
		return uint32(b[at])<<24 + uint32(b[at+1])<<16 + uint32(b[at+2])<<8 + uint32(b[at+3])
	}
	i := api.Item{Kind: int(b[1])}
	if i.Kind == 203 {
		for at := 4; at < len(b); at += 4 {
			i.Gone = append(i.Gone, word(at))
		}
		return i
	}
	i.Ssrc = word(4)
	if i.Kind > 204 {
		i.Media = word(8)
		for at := 12; at < len(b); at += 4 {
			i.Pairs = append(i.Pairs, api.Pair{Pid: uint16(word(at) >> 16), Blp: uint16(word(at))})
		}
		return i
	}
	at := 8
	if i.Kind == 200 {
		i.Ntp, i.Time, i.Packets, i.Octets = uint64(word(8))<<32+uint64(word(12)), word(16), word(20), word(24)
		at = 28
	}
	for ; at < len(b); at += 24 {
		i.Blocks = append(i.Blocks, api.Block{Ssrc: word(at), Lost: b[at+4], Total: word(at+4) % (1 << 24), High: word(at + 8), Jitter: word(at + 12), Last: word(at + 16), Delay: word(at + 20)})
	}
	return i
}

// dice is a row of numbers that is the same each time.
type dice uint64

func (d *dice) below(n int) int {
	*d = *d*6364136223846793005 + 1442695040888963407
	return int(uint64(*d)>>33) % n
}

// anyItem may be.
func anyItem(d *dice) api.Item {
	switch d.below(5) {
	case 0:
		return senderOf(d.below(4))
	case 1:
		return receiverOf(d.below(4))
	case 2:
		return byeOf(1 + d.below(15))
	case 3:
		return againOf(1 + d.below(16))
	}
	return pictureOf(d.below(200))
}

// anyRow is a row of items of which something is other, or cut off, or added.
func anyRow(d *dice) []byte {
	var b []byte
	for range d.below(11) {
		b = append(b, wantBytes(anyItem(d))...)
	}
	switch d.below(6) {
	case 0:
		b = b[:d.below(len(b)+1)]
	case 1:
		b = append(b, make([]byte, d.below(9))...)
	case 2, 3:
		if len(b) > 0 {
			b[d.below(len(b))] = byte(d.below(256))
		}
	case 4:
		if len(b) > 0 {
			b[d.below(len(b))/4*4+d.below(4)] += byte(1 + d.below(3))
		}
	}
	return b
}

// What is read is put as it was, and it is read just where the chapter says so.
func TestGetAndPutBack(t *testing.T) {
	d := dice(9)
	seen := map[api.Errno]int{}
	for range 100000 {
		b := anyRow(&d)
		before := slices.Clone(b)
		l, e := Get(b)
		seen[e]++
		want, wantErr := wantItems(b)
		if e != wantErr || !same(l, want) {
			t.Fatalf("Get(%v) = %+v, %d, want %+v, %d", b, l, e, want, wantErr)
		}
		if e != api.OK {
			refused(t, b, e)
		} else if again, f := Put(l); f != api.OK || Size(l) != len(b) || !slices.Equal(again, b) {
			t.Fatalf("Put(Get(%v)) = %v, %d", b, again, f)
		}
		if !slices.Equal(b, before) {
			t.Fatal("the bytes were changed:", before)
		}
	}
	for _, e := range []api.Errno{api.OK, api.ErrForm, api.ErrShort, api.ErrKind, api.ErrMore, api.ErrRange} {
		if seen[e] < 500 {
			t.Error("too few of error", e, seen[e])
		}
	}
}

// Whatever one byte of a row is made, it is refused, or it is what other items tell.
func TestGetOneByteOther(t *testing.T) {
	whole := wantRow([]api.Item{byeOf(2), againOf(2), pictureOf(0), receiverOf(1), senderOf(0), byeOf(1)})
	for at := range whole {
		for x := range 256 {
			b := slices.Clone(whole)
			b[at] = byte(x)
			l, e := Get(b)
			want, wantErr := wantItems(b)
			if e != wantErr || !same(l, want) {
				t.Fatalf("byte %d is %d: %+v, %d, want %+v, %d", at, x, l, e, want, wantErr)
			}
			if again, f := Put(l); e == api.OK && (f != api.OK || !slices.Equal(again, b)) {
				t.Fatalf("byte %d is %d: %v, %d", at, x, again, f)
			}
		}
	}
}

// An answer names no field that is not its kind's.
func TestGetOtherFieldsZero(t *testing.T) {
	l, e := Get(wantRow([]api.Item{senderOf(1), receiverOf(1), byeOf(2), againOf(2), pictureOf(1)}))
	if e != api.OK {
		t.Fatal(e)
	}
	for _, i := range l {
		if !May(i) {
			t.Errorf("%+v", i)
		}
	}
}

func TestNilAndEmpty(t *testing.T) {
	for _, i := range oneEach() {
		j := i
		if j.Blocks == nil {
			j.Blocks = []api.Block{}
		}
		if j.Gone == nil {
			j.Gone = []uint32{}
		}
		if j.Pairs == nil {
			j.Pairs = []api.Pair{}
		}
		if !May(i) || !May(j) {
			t.Error("refused:", i.Kind)
		}
		told(t, []api.Item{i, j}, slices.Repeat(wantBytes(i), 2))
	}
}

func TestHugeLists(t *testing.T) {
	for _, kind := range []int{0, 200, 201, 203, 205, 206} {
		for _, i := range []api.Item{{Blocks: make([]api.Block, 1<<20)}, {Gone: make([]uint32, 1<<20)}, {Pairs: make([]api.Pair, 1<<20)}} {
			i.Kind = kind
			if May(i) || Size([]api.Item{i}) != 0 {
				t.Error("let in:", kind)
			}
			notPut(t, []api.Item{i}, api.ErrForm)
		}
	}
	many := slices.Repeat([]api.Item{byeOf(1)}, 1<<20)
	if n := Size(many); n != 8<<20 {
		t.Error(n)
	}
	notPut(t, many, api.ErrForm)
	many[1<<20-1] = api.Item{Kind: 203}
	if n := Size(many); n != 0 {
		t.Error("the last one may not be:", n)
	}
}

// spare is a list with room behind it that holds just fill.
func spare[T any](list []T, fill T) []T {
	whole := append(slices.Clone(list), fill, fill, fill)
	return whole[: len(list) : len(list)+3]
}

// scribble writes into all of a list, its spare room, too.
func scribble[T any](list []T, x T) {
	for i := range list[:cap(list)] {
		list[:cap(list)][i] = x
	}
}

// scribbleAll writes into all lists of items, and then into their own.
func scribbleAll(l []api.Item) {
	for _, i := range l {
		scribble(i.Blocks, api.Block{Ssrc: 99})
		scribble(i.Gone, 99)
		scribble(i.Pairs, api.Pair{Pid: 99})
	}
	scribble(l, api.Item{Kind: 99})
}

// row gives new items of all kinds.
func row() []api.Item {
	return []api.Item{senderOf(2), receiverOf(1), byeOf(3), againOf(3), pictureOf(1), byeOf(1), againOf(1)}
}

func TestPutLeavesItsItems(t *testing.T) {
	full := api.Item{Kind: 77}
	l := spare(row(), full)
	for k := range l {
		l[k].Blocks, l[k].Gone, l[k].Pairs = spare(l[k].Blocks, api.Block{Ssrc: 77}), spare(l[k].Gone, 77), spare(l[k].Pairs, api.Pair{Pid: 77})
	}
	n := Size(l)
	b, e := Put(l)
	again, _ := Put(l)
	scribble(b, 200)
	if e != api.OK || n != len(b) || !same(l, row()) {
		t.Errorf("the items were changed: %+v, %d", l, e)
	}
	for _, i := range l {
		if !May(i) {
			t.Error("what is in the spare room counts:", i.Kind)
		}
		blocks, gone, pairs := i.Blocks[:cap(i.Blocks)], i.Gone[:cap(i.Gone)], i.Pairs[:cap(i.Pairs)]
		for k := range 3 {
			if blocks[len(i.Blocks)+k].Ssrc != 77 || gone[len(i.Gone)+k] != 77 || pairs[len(i.Pairs)+k].Pid != 77 {
				t.Error("spare room was changed:", i.Kind)
			}
		}
	}
	for _, i := range l[len(l):cap(l)] {
		if i.Kind != 77 {
			t.Error("the spare room of the items was changed")
		}
	}
	scribbleAll(l)
	if !slices.Equal(again, wantRow(row())) {
		t.Error("an answer shares memory with another, or with the items:", again)
	}
}

func TestGetIsNewMemory(t *testing.T) {
	b := spare(wantRow(row()), 77)
	before := slices.Clone(b[:cap(b)])
	l, _ := Get(b)
	m, _ := Get(b)
	scribbleAll(l)
	if !slices.Equal(b[:cap(b)], before) {
		t.Error("a write into an answer is seen in the bytes")
	}
	scribble(b, 200)
	if !same(m, row()) {
		t.Errorf("an answer shares memory with another, or with the bytes: %+v", m)
	}
	if l, e := Get(before[:len(b)]); e != api.OK || !same(l, row()) {
		t.Errorf("an answer hangs on one before it: %+v, %d", l, e)
	}
}

// No two lists of one answer share memory, their spare room neither.
func TestGetListsAreApart(t *testing.T) {
	for k := range row() {
		l, _ := Get(wantRow(row()))
		scribble(l[k].Blocks, api.Block{Ssrc: 99})
		scribble(l[k].Gone, 99)
		scribble(l[k].Pairs, api.Pair{Pid: 99})
		want := row()
		if !same(l[:k], want[:k]) || !same(l[k+1:], want[k+1:]) {
			t.Errorf("a write into item %d is seen in another: %+v", k, l)
		}
	}
}

func ExamplePut() {
	b, err := Put([]api.Item{{Kind: api.IPicture, Ssrc: 1, Media: 258}, {Kind: api.IBye, Gone: []uint32{7}}})
	fmt.Println(b, err == api.OK)
	// Output: [129 206 0 2 0 0 0 1 0 0 1 2 129 203 0 1 0 0 0 7] true
}

func ExampleGet() {
	l, err := Get([]byte{129, 205, 0, 3, 0, 0, 0, 1, 0, 0, 1, 2, 0, 9, 0, 5})
	fmt.Println(len(l), l[0].Kind, l[0].Media, l[0].Pairs, err == api.OK)
	// Output: 1 205 258 [{9 5}] true
}
