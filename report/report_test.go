package report

import (
	"fmt"
	"math"
	"reflect"
	"slices"
	"testing"

	"sluicegate/api"
)

// blockOf is a block in which no two bytes are the same, so that none can stand for another.
func blockOf(n int) api.Block {
	x := uint32(n) * 0x01010101
	return api.Block{Ssrc: 0x01020304 + x, Lost: uint8(5 + n), Total: 0x060708 + x&0xffff, High: 0x090a0b0c + x, Jitter: 0x0d0e0f10 + x, Last: 0x11121314 + x, Delay: 0x15161718 + x}
}

func blocksOf(n int) []api.Block {
	var list []api.Block
	for i := range n {
		list = append(list, blockOf(i))
	}
	return list
}

func senderOf(n int) api.Item {
	return api.Item{Kind: 200, Ssrc: 0xa1a2a3a4, Ntp: 0xb1b2b3b4b5b6b7b8, Time: 0xc1c2c3c4, Packets: 0xd1d2d3d4, Octets: 0xe1e2e3e4, Blocks: blocksOf(n)}
}

func receiverOf(n int) api.Item {
	return api.Item{Kind: 201, Ssrc: 0xa1a2a3a4, Blocks: blocksOf(n)}
}

// rightItems are of both kinds and of every number of blocks, with small and great numbers.
func rightItems() []api.Item {
	least, most := api.Block{}, api.Block{Ssrc: math.MaxUint32, Lost: 255, Total: 1<<24 - 1, High: math.MaxUint32, Jitter: math.MaxUint32, Last: math.MaxUint32, Delay: math.MaxUint32}
	list := []api.Item{
		{Kind: 200}, {Kind: 201}, {Kind: 201, Ssrc: math.MaxUint32},
		{Kind: 200, Ssrc: math.MaxUint32, Ntp: math.MaxUint64, Time: math.MaxUint32, Packets: math.MaxUint32, Octets: math.MaxUint32},
		{Kind: 200, Ssrc: 1}, {Kind: 200, Ntp: 1}, {Kind: 200, Ntp: 1 << 32}, {Kind: 200, Time: 1}, {Kind: 200, Packets: 1}, {Kind: 200, Octets: 1},
	}
	for n := range 16 {
		list = append(list, senderOf(n), receiverOf(n))
	}
	for _, kind := range []int{200, 201} {
		for _, k := range []api.Block{least, most, {Ssrc: 1}, {Lost: 1}, {Total: 1}, {Total: 1 << 23}, {High: 1}, {Jitter: 1}, {Last: 1}, {Delay: 1}} {
			list = append(list, api.Item{Kind: kind, Blocks: []api.Block{k}}, api.Item{Kind: kind, Blocks: []api.Block{least, k, most}})
		}
	}
	return list
}

// wrongForms are of a kind that may be, and each wrong in one thing.
func wrongForms() []api.Item {
	list := []api.Item{
		{Kind: 201, Ntp: 1}, {Kind: 201, Ntp: 1 << 32}, {Kind: 201, Ntp: 1 << 63}, {Kind: 201, Time: 1}, {Kind: 201, Time: 1 << 31}, {Kind: 201, Packets: 1}, {Kind: 201, Packets: 1 << 31}, {Kind: 201, Octets: 1}, {Kind: 201, Octets: 1 << 31},
	}
	for _, kind := range []int{200, 201} {
		list = append(list, api.Item{Kind: kind, Media: 1}, api.Item{Kind: kind, Media: 1 << 31})
		// A list with an element is not zero, whatever the element is.
		list = append(list, api.Item{Kind: kind, Gone: []uint32{0}}, api.Item{Kind: kind, Gone: []uint32{7, 8}}, api.Item{Kind: kind, Pairs: []api.Pair{{}}}, api.Item{Kind: kind, Pairs: []api.Pair{{Pid: 1, Blp: 2}}})
		for _, n := range []int{16, 17, 31, 32, 33, 256, 257, 1 << 16} {
			list = append(list, api.Item{Kind: kind, Blocks: make([]api.Block, n)})
		}
		for _, total := range []uint32{1 << 24, 1<<24 + 1, 1 << 25, 1 << 31, math.MaxUint32} {
			for _, at := range []int{0, 7, 14} {
				blocks := blocksOf(15)
				blocks[at].Total = total
				list = append(list, api.Item{Kind: kind, Blocks: blocks}, api.Item{Kind: kind, Blocks: blocks[:at+1]})
			}
		}
	}
	return list
}

// wrongKinds are beside the two, some of them equal to one in their low bits.
func wrongKinds() []int {
	list := []int{math.MinInt, -200, -201, -56, -55, 456, 457, 200 + 1<<16, 201 + 1<<32, 200 + 1<<62, math.MaxInt}
	for kind := -10; kind < 300; kind++ {
		if kind != 200 && kind != 201 {
			list = append(list, kind)
		}
	}
	return list
}

func fourBytes(n uint32) []byte {
	return []byte{byte(n / 0x1000000), byte(n / 0x10000 % 256), byte(n / 256 % 256), byte(n % 256)}
}

// wantBytes are an item's bytes as the chapter tells them, part behind part.
func wantBytes(i api.Item) []byte {
	var rest []byte
	rest = append(rest, fourBytes(i.Ssrc)...)
	if i.Kind == 200 {
		rest = append(rest, fourBytes(uint32(i.Ntp/(1<<32)))...)
		rest = append(rest, fourBytes(uint32(i.Ntp%(1<<32)))...)
		rest = append(rest, fourBytes(i.Time)...)
		rest = append(rest, fourBytes(i.Packets)...)
		rest = append(rest, fourBytes(i.Octets)...)
	}
	for _, k := range i.Blocks {
		rest = append(rest, fourBytes(k.Ssrc)...)
		rest = append(rest, k.Lost)
		rest = append(rest, fourBytes(k.Total)[1:]...)
		rest = append(rest, fourBytes(k.High)...)
		rest = append(rest, fourBytes(k.Jitter)...)
		rest = append(rest, fourBytes(k.Last)...)
		rest = append(rest, fourBytes(k.Delay)...)
	}
	words := len(rest) / 4
	return append([]byte{byte(128 + len(i.Blocks)), byte(i.Kind), byte(words / 256), byte(words % 256)}, rest...)
}

// same holds two items against each other; a nil list is an empty one.
func same(i, j api.Item) bool {
	if !slices.Equal(i.Blocks, j.Blocks) || !slices.Equal(i.Gone, j.Gone) || !slices.Equal(i.Pairs, j.Pairs) {
		return false
	}
	i.Blocks, i.Gone, i.Pairs = nil, nil, nil
	j.Blocks, j.Gone, j.Pairs = nil, nil, nil
	return reflect.DeepEqual(i, j)
}

func TestMay(t *testing.T) {
	for _, i := range rightItems() {
		if !May(i) {
			t.Errorf("refused: %+v", i)
		}
	}
	for _, i := range wrongForms() {
		if May(i) {
			t.Errorf("let in: %+v", i)
		}
	}
	for _, kind := range wrongKinds() {
		if May(api.Item{Kind: kind}) || May(api.Item{Kind: kind, Ssrc: 1, Blocks: blocksOf(1)}) {
			t.Error("let in: kind", kind)
		}
	}
}

func TestMayEveryCount(t *testing.T) {
	for n := range 300 {
		for _, kind := range []int{200, 201} {
			if May(api.Item{Kind: kind, Blocks: make([]api.Block, n)}) != (n <= 15) {
				t.Error(kind, n)
			}
		}
	}
}

func TestMayEachTotal(t *testing.T) {
	for _, total := range []uint32{0, 1, 1 << 16, 1<<24 - 2, 1<<24 - 1, 1 << 24, 1<<24 + 1, 1 << 25, math.MaxUint32} {
		for n := 1; n <= 15; n++ {
			for at := range n {
				i := receiverOf(n)
				i.Blocks[at].Total = total
				if May(i) != (total < 1<<24) {
					t.Error(total, n, at)
				}
			}
		}
	}
}

// What is zero for its kind is zero as an empty list, too.
func TestNilAndEmpty(t *testing.T) {
	for _, kind := range []int{200, 201} {
		i := api.Item{Kind: kind, Ssrc: 9}
		j := api.Item{Kind: kind, Ssrc: 9, Blocks: []api.Block{}, Gone: []uint32{}, Pairs: []api.Pair{}}
		a, e := Put(i)
		b, f := Put(j)
		if !May(j) || e != api.OK || f != api.OK || !slices.Equal(a, b) {
			t.Error(kind, a, e, b, f)
		}
	}
	i, n, e := Get([]byte{})
	j, m, f := Get(nil)
	if e != api.ErrShort || f != e || n != 0 || m != 0 || !reflect.DeepEqual(i, api.Item{}) || !reflect.DeepEqual(i, j) {
		t.Error("no bytes:", i, n, e, j, m, f)
	}
}

func TestPutBytes(t *testing.T) {
	for _, c := range []struct {
		i    api.Item
		want []byte
	}{
		{api.Item{Kind: 201}, []byte{128, 201, 0, 1, 0, 0, 0, 0}},
		{api.Item{Kind: 201, Ssrc: 0x01020304}, []byte{128, 201, 0, 1, 1, 2, 3, 4}},
		{api.Item{Kind: 200, Ssrc: 0x01020304, Ntp: 0x05060708090a0b0c, Time: 0x0d0e0f10, Packets: 0x11121314, Octets: 0x15161718},
			[]byte{128, 200, 0, 6, 1, 2, 3, 4, 5, 6, 7, 8, 9, 10, 11, 12, 13, 14, 15, 16, 17, 18, 19, 20, 21, 22, 23, 24}},
		{api.Item{Kind: 201, Ssrc: 0xffffffff, Blocks: []api.Block{{Ssrc: 0x01020304, Lost: 5, Total: 0x060708, High: 0x090a0b0c, Jitter: 0x0d0e0f10, Last: 0x11121314, Delay: 0x15161718}}},
			[]byte{129, 201, 0, 7, 255, 255, 255, 255, 1, 2, 3, 4, 5, 6, 7, 8, 9, 10, 11, 12, 13, 14, 15, 16, 17, 18, 19, 20, 21, 22, 23, 24}},
		{api.Item{Kind: 201, Blocks: []api.Block{{Lost: 255}, {Total: 1<<24 - 1}}},
			[]byte{130, 201, 0, 13, 0, 0, 0, 0,
				0, 0, 0, 0, 255, 0, 0, 0, 0, 0, 0, 0, 0, 0, 0, 0, 0, 0, 0, 0, 0, 0, 0, 0,
				0, 0, 0, 0, 0, 255, 255, 255, 0, 0, 0, 0, 0, 0, 0, 0, 0, 0, 0, 0, 0, 0, 0, 0}},
	} {
		if b, e := Put(c.i); e != api.OK || !slices.Equal(b, c.want) {
			t.Errorf("Put(%+v) = %v, %d, want %v", c.i, b, e, c.want)
		}
	}
}

// The words, less one: 6 of a sender's and 1 of a receiver's, and 6 of each block.
func TestPutWords(t *testing.T) {
	for n := range 16 {
		b, _ := Put(senderOf(n))
		c, _ := Put(receiverOf(n))
		if len(b) != 28+24*n || len(c) != 8+24*n {
			t.Fatal(n, len(b), len(c))
		}
		if !slices.Equal(b[:4], []byte{byte(128 + n), 200, 0, byte(6 + 6*n)}) || !slices.Equal(c[:4], []byte{byte(128 + n), 201, 0, byte(1 + 6*n)}) {
			t.Error(n, b[:4], c[:4])
		}
	}
}

// tails are what may stand behind an item.
func tails() [][]byte {
	another, _ := Put(senderOf(2))
	return [][]byte{nil, {0}, {128, 201, 0}, {255, 255, 255, 255}, another, make([]byte, 513)}
}

func TestPutAndGetBack(t *testing.T) {
	for _, i := range rightItems() {
		want := wantBytes(i)
		b, e := Put(i)
		if e != api.OK || !slices.Equal(b, want) {
			t.Errorf("Put(%+v) = %v, %d, want %v", i, b, e, want)
		}
		for _, tail := range tails() {
			got, n, e := Get(slices.Concat(want, tail))
			if e != api.OK || n != len(want) || !same(got, i) {
				t.Errorf("Get(Put(%+v), %d more) = %+v, %d, %d", i, len(tail), got, n, e)
			}
		}
	}
}

// Items one behind the other are read one behind the other.
func TestGetRow(t *testing.T) {
	var row []byte
	for _, i := range rightItems() {
		row = append(row, wantBytes(i)...)
	}
	for _, want := range rightItems() {
		i, n, e := Get(row)
		if e != api.OK || !same(i, want) {
			t.Fatalf("%+v, %d, %d, want %+v", i, n, e, want)
		}
		row = row[n:]
	}
	if len(row) != 0 {
		t.Error("left:", len(row))
	}
}

func TestPutWrong(t *testing.T) {
	for _, i := range wrongForms() {
		if b, e := Put(i); b != nil || e != api.ErrForm {
			t.Errorf("Put(%+v) = %v, %d", i, b, e)
		}
	}
	for _, kind := range wrongKinds() {
		if b, e := Put(api.Item{Kind: kind}); b != nil || e != api.ErrKind {
			t.Errorf("kind %d: %v, %d", kind, b, e)
		}
		// The kind is told ahead of all else that may not be.
		for _, i := range wrongForms() {
			i.Kind = kind
			if b, e := Put(i); b != nil || e != api.ErrKind {
				t.Fatalf("kind %d, and more: %v, %d", kind, b, e)
			}
		}
	}
}

func TestHugeLists(t *testing.T) {
	for _, kind := range []int{200, 201, 203} {
		want := api.ErrForm
		if kind == 203 {
			want = api.ErrKind
		}
		for _, i := range []api.Item{{Blocks: make([]api.Block, 1<<20)}, {Gone: make([]uint32, 1<<20)}, {Pairs: make([]api.Pair, 1<<20)}} {
			i.Kind = kind
			if b, e := Put(i); May(i) || b != nil || e != want {
				t.Error(kind, len(b), e)
			}
		}
	}
	b := make([]byte, 1<<20)
	copy(b, wantBytes(senderOf(15)))
	if i, n, e := Get(b); e != api.OK || n != 388 || !same(i, senderOf(15)) {
		t.Error(i, n, e)
	}
}

// refused asks for an error with nothing beside it.
func refused(t *testing.T, b []byte, want api.Errno) {
	t.Helper()
	if i, n, e := Get(b); e != want || n != 0 || !reflect.DeepEqual(i, api.Item{}) {
		t.Errorf("Get(%v) = %+v, %d, %d, want %d", b, i, n, e, want)
	}
}

func TestGetFewerThanFour(t *testing.T) {
	refused(t, nil, api.ErrShort)
	for n := range 4 {
		for _, first := range []byte{0, 64, 128, 129, 144, 160, 255} {
			for _, second := range []byte{0, 200, 201, 202} {
				// The spare room holds the rest, and must not be read.
				refused(t, []byte{first, second, 0, 1, 0, 0, 0, 0}[:n], api.ErrShort)
			}
		}
	}
}

// Each beginning of a report is short, whatever is in the spare room behind it.
func TestGetEachBeginning(t *testing.T) {
	for n := range 16 {
		for _, i := range []api.Item{senderOf(n), receiverOf(n)} {
			whole := wantBytes(i)
			for to := range whole {
				refused(t, whole[:to], api.ErrShort)
				refused(t, slices.Clone(whole[:to]), api.ErrShort)
			}
			if got, m, e := Get(whole); e != api.OK || m != len(whole) || !same(got, i) {
				t.Error("the whole:", got, m, e)
			}
		}
	}
}

func TestGetEveryFirstTwo(t *testing.T) {
	for first := range 256 {
		for second := range 256 {
			count := first % 32
			words := 1 + 6*count
			if second == 200 {
				words += 5
			}
			b := make([]byte, 4+4*words)
			b[0], b[1], b[3] = byte(first), byte(second), byte(words)
			want := api.OK
			switch {
			case first < 128 || first > 159:
				want = api.ErrForm
			case second != 200 && second != 201:
				want = api.ErrKind
			case count > 15:
				want = api.ErrForm
			}
			if want != api.OK {
				refused(t, b, want)
				refused(t, b[:4], want)
				continue
			}
			i, n, e := Get(b)
			if e != api.OK || n != len(b) || !same(i, api.Item{Kind: second, Blocks: make([]api.Block, count)}) {
				t.Fatal(first, second, i, n, e)
			}
			refused(t, b[:len(b)-1], api.ErrShort)
			refused(t, b[:4], api.ErrShort)
		}
	}
}

// Of every number of words just one fits so many blocks; the others are told ahead of bytes that are missing.
func TestGetEveryCountAndWords(t *testing.T) {
	all := make([]byte, 4*65536)
	for _, kind := range []int{200, 201} {
		for count := range 32 {
			fit := 1 + 6*count
			if kind == 200 {
				fit += 5
			}
			for words := range 65536 {
				copy(all, []byte{byte(128 + count), byte(kind), byte(words / 256), byte(words % 256)})
				if count > 15 || words != fit {
					if _, _, e := Get(all); e != api.ErrForm {
						t.Fatal(kind, count, words, e)
					}
					if _, _, e := Get(all[:4]); e != api.ErrForm {
						t.Fatal(kind, count, words, e)
					}
					continue
				}
				if i, n, e := Get(all); e != api.OK || n != 4*(fit+1) || i.Kind != kind || len(i.Blocks) != count {
					t.Fatal(kind, count, words, i, n, e)
				}
				refused(t, all[:4*(fit+1)-1], api.ErrShort)
			}
		}
	}
}

func TestGetErrorsInOrder(t *testing.T) {
	for _, c := range []struct {
		b    []byte
		want api.Errno
	}{
		{[]byte{0, 0, 0}, api.ErrShort},
		{[]byte{0, 0, 0, 0}, api.ErrForm},
		{[]byte{31, 1, 255, 255}, api.ErrForm},
		{[]byte{0, 200, 0, 6}, api.ErrForm},
		{[]byte{64, 200, 0, 6}, api.ErrForm},
		{[]byte{160, 200, 0, 6}, api.ErrForm},
		{[]byte{192, 201, 0, 1}, api.ErrForm},
		{[]byte{160, 7, 0, 6}, api.ErrForm},
		{[]byte{159, 7, 255, 255}, api.ErrKind},
		{[]byte{144, 203, 0, 1}, api.ErrKind},
		{[]byte{128, 205, 0, 1}, api.ErrKind},
		{[]byte{128, 199, 0, 1}, api.ErrKind},
		{[]byte{144, 201, 0, 97}, api.ErrForm},
		{[]byte{144, 200, 0, 102}, api.ErrForm},
		{[]byte{128, 200, 0, 1}, api.ErrForm},
		{[]byte{128, 201, 0, 6}, api.ErrForm},
		{[]byte{128, 201, 1, 1}, api.ErrForm},
		{[]byte{129, 201, 0, 1}, api.ErrForm},
		{[]byte{128, 201, 0, 7}, api.ErrForm},
		{[]byte{129, 201, 0, 7}, api.ErrShort},
		{[]byte{143, 200, 0, 96}, api.ErrShort},
		{[]byte{143, 201, 0, 91}, api.ErrShort},
	} {
		refused(t, c.b, c.want)
	}
}

// wantErr is Get's error by the chapter's words, with the words that fit told by a table of both kinds.
func wantErr(b []byte) api.Errno {
	if len(b) < 4 {
		return api.ErrShort
	}
	if b[0]/32 != 4 {
		return api.ErrForm
	}
	alone, ok := map[byte]int{200: 6, 201: 1}[b[1]]
	if !ok {
		return api.ErrKind
	}
	count, words := int(b[0])-128, int(b[2])*256+int(b[3])
	if count >= 16 || words-alone != 6*count {
		return api.ErrForm
	}
	if len(b) < 4*words+4 {
		return api.ErrShort
	}
	return api.OK
}

// dice is a row of numbers that is the same each time.
type dice uint64

func (d *dice) below(n int) int {
	*d = *d*6364136223846793005 + 1442695040888963407
	return int(uint64(*d)>>33) % n
}

// anyBytes begin so that much of them is right, or nearly so.
func anyBytes(d *dice) []byte {
	b := make([]byte, d.below(120))
	for i := range b {
		b[i] = byte(d.below(256))
	}
	if len(b) < 4 {
		return b
	}
	count := d.below(4)
	b[0], b[1], b[2], b[3] = byte(128+count), byte(200+d.below(2)), 0, byte(1+6*count)
	if b[1] == 200 {
		b[3] += 5
	}
	switch d.below(8) {
	case 0:
		b[0] = byte(d.below(256))
	case 1:
		b[1] = byte(d.below(256))
	case 2:
		b[2] = byte(d.below(256))
	case 3:
		b[3] = byte(d.below(256))
	}
	return b
}

// What is read is put as it was, and it is read just where the chapter says so.
func TestGetAndPutBack(t *testing.T) {
	d := dice(7)
	seen := map[api.Errno]int{}
	for range 200000 {
		b := anyBytes(&d)
		before := slices.Clone(b)
		i, n, e := Get(b)
		seen[e]++
		if want := wantErr(b); e != want {
			t.Fatalf("Get(%v): error %d, want %d", b, e, want)
		}
		if e != api.OK {
			refused(t, b, e)
		} else if again, f := Put(i); f != api.OK || !May(i) || !slices.Equal(again, b[:n]) {
			t.Fatalf("Put(Get(%v)) = %v, %d", b, again, f)
		}
		if !slices.Equal(b, before) {
			t.Fatal("the bytes were changed:", before)
		}
	}
	for _, e := range []api.Errno{api.OK, api.ErrForm, api.ErrShort, api.ErrKind} {
		if seen[e] < 1000 {
			t.Error("too few of error", e, seen[e])
		}
	}
}

// Whatever one byte of a report is made, it is refused, or it is what another report tells.
func TestGetOneByteOther(t *testing.T) {
	for _, i := range []api.Item{senderOf(3), receiverOf(3)} {
		whole := wantBytes(i)
		for at := range whole {
			for x := range 256 {
				b := slices.Clone(whole)
				b[at] = byte(x)
				got, n, e := Get(b)
				if e != wantErr(b) {
					t.Fatalf("byte %d is %d: error %d, want %d", at, x, e, wantErr(b))
				}
				if e != api.OK {
					refused(t, b, e)
				} else if again, _ := Put(got); n != len(b) || !slices.Equal(again, b) {
					t.Fatalf("byte %d is %d: %v, %d", at, x, again, n)
				}
			}
		}
	}
}

// spare is a list with room behind it that holds just fill.
func spare[T any](list []T, fill T) []T {
	whole := append(slices.Clone(list), fill, fill, fill)
	return whole[: len(list) : len(list)+3]
}

// scribble writes into all of a list, its spare room, too.
func scribble[T any](list []T, x T) {
	for i := range list[:cap(list)] {
		list[:cap(list)][i] = x
	}
}

func TestPutLeavesItsItem(t *testing.T) {
	fill := api.Block{Ssrc: 77, Total: 77}
	i := senderOf(4)
	i.Blocks = spare(i.Blocks, fill)
	i.Gone, i.Pairs = spare([]uint32{}, 77), spare([]api.Pair{}, api.Pair{Pid: 77})
	if !May(i) {
		t.Error("what is in the spare room counts")
	}
	b, e := Put(i)
	again, _ := Put(i)
	scribble(b, 200)
	if e != api.OK || !same(i, senderOf(4)) {
		t.Errorf("the item was changed: %+v, %d", i, e)
	}
	for k := range 3 {
		if i.Blocks[:7][4+k] != fill || i.Gone[:3][k] != 77 || i.Pairs[:3][k].Pid != 77 {
			t.Error("spare room was changed")
		}
	}
	scribble(i.Blocks, fill)
	if !slices.Equal(again, wantBytes(senderOf(4))) {
		t.Error("an answer shares memory with another, or with the item:", again)
	}
}

func TestGetIsNewMemory(t *testing.T) {
	for _, n := range []int{0, 1, 5, 15} {
		b := spare(wantBytes(senderOf(n)), 77)
		before := slices.Clone(b[:cap(b)])
		i, _, _ := Get(b)
		j, _, _ := Get(b)
		scribble(i.Blocks, api.Block{Ssrc: 99})
		scribble(i.Gone, 99)
		scribble(i.Pairs, api.Pair{Pid: 99})
		if !slices.Equal(b[:cap(b)], before) {
			t.Error("a write into an answer is seen in the bytes:", n)
		}
		scribble(b, 200)
		if !same(j, senderOf(n)) {
			t.Errorf("an answer shares memory with another, or with the bytes: %+v", j)
		}
		if k, _, e := Get(before); e != api.OK || !same(k, senderOf(n)) {
			t.Errorf("an answer hangs on one before it: %+v, %d", k, e)
		}
	}
}

func ExamplePut() {
	b, err := Put(api.Item{Kind: api.IReceiver, Ssrc: 258})
	fmt.Println(b, err == api.OK)
	// Output: [128 201 0 1 0 0 1 2] true
}

func ExampleGet() {
	i, n, err := Get([]byte{128, 201, 0, 1, 0, 0, 1, 2, 9, 9})
	fmt.Println(i.Kind, i.Ssrc, n, err == api.OK)
	// Output: 201 258 8 true
}
