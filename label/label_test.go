package label

import (
	"math"
	"strings"
	"testing"
	"unicode/utf8"
	"unsafe"
)

// wrongTexts are not valid UTF-8, each in a way of its own.
func wrongTexts() []string {
	return []string{
		"\xff", "\xfe", "\x80", "\xbf", // bytes that begin nothing
		"\xc3", "\xe6", "\xe6\x97", "\xf0", "\xf0\x9f", "\xf0\x9f\x98", // cut short
		"\xc0\x80", "\xc1\xbf", "\xe0\x80\x80", "\xe0\x9f\xbf", "\xf0\x80\x80\x80", "\xf0\x8f\xbf\xbf", // too long for their rune
		"\xed\xa0\x80", "\xed\xbf\xbf", // halves of pairs
		"\xf4\x90\x80\x80", "\xf5\x80\x80\x80", "\xf8\x88\x80\x80\x80", // beyond the last rune
		"\xef\xbf", "\xef\xbf\xff", "\xef\xbf\xbd\xbd", "\xef\xef\xbf\xbd", // round the replacement rune
	}
}

// rightTexts are valid UTF-8, at the edges of each length of a rune.
func rightTexts() []string {
	return []string{
		"", "a", "Z", "\x00", "\x7f", "\u0080", "\u07ff", "\u0800", "\ud7ff", "\ue000", "\ufffc", "\ufffd", "\ufffe", "\uffff",
		"\U00010000", "\U0010ffff", "é日a", "ann-2", "12345678", "123456789", "日日日日日日日日", "e\u0301", "a\ufffdb", "\ufffd\ufffd",
	}
}

// allTexts are the right ones, the wrong ones, and each pair of both, in both orders.
func allTexts() []string {
	all := append(rightTexts(), wrongTexts()...)
	for _, a := range rightTexts() {
		for _, b := range wrongTexts() {
			all = append(all, a+b, b+a, a+b+a)
		}
	}
	return all
}

// pieces cuts a text into its runes, a wrong byte as one, by decoding and not by range.
func pieces(s string) []string {
	var list []string
	for len(s) > 0 {
		_, size := utf8.DecodeRuneInString(s)
		list = append(list, s[:size])
		s = s[size:]
	}
	return list
}

func TestRunes(t *testing.T) {
	for s, want := range map[string]int{
		"": 0, "a": 1, "é": 1, "日本": 2, "é日a": 3, "\U0001f600": 1, "\x00\x00": 2, "e\u0301": 2,
		"\ufffd": 1, "\ufffd\ufffdx": 3, "a b\n": 4, "123456789": 9,
		"\xff": -1, "a\xff": -1, "\xffa": -1, "\ufffd\xff": -1, "\xff\ufffd": -1, "\xe6\x97": -1, "日\xe6\x97": -1,
	} {
		if n := Runes(s); n != want {
			t.Errorf("Runes(%q) = %d, want %d", s, n, want)
		}
	}
}

func TestRunesByDefinition(t *testing.T) {
	for _, s := range allTexts() {
		want := -1
		if utf8.ValidString(s) {
			want = utf8.RuneCountInString(s)
		}
		if n := Runes(s); n != want {
			t.Errorf("Runes(%q) = %d, want %d", s, n, want)
		}
	}
}

func TestRunesOfLongTexts(t *testing.T) {
	s := strings.Repeat("é日a", 1<<18)
	if n := Runes(s); n != 3<<18 {
		t.Errorf("long: %d", n)
	}
	if n := Runes(s + "\xff"); n != -1 {
		t.Errorf("long and wrong at its end: %d", n)
	}
}

func TestMay(t *testing.T) {
	for _, s := range []string{"a", "!", "~", "\u00a0", "ann-2", "ANN", "é日本", "\ufffc", "\ufffe", "\U0010ffff", "12345678", "日日日日日日日日", "\U0001f600\U0001f600"} {
		if !May(s) {
			t.Errorf("May(%q) is false", s)
		}
	}
	for _, s := range []string{
		"", "123456789", "日日日日日日日日日", " ", "a b", "a ", " a", "\x00", "a\n", "\t", "\x1f", "\x7f", "a\u0080", "\u009fa", "\ufffd", "a\ufffda",
		"1234567 ", "1234567\x7f", "1234567\xff", strings.Repeat("a", 1<<20), strings.Repeat("\xff", 1<<20),
	} {
		if May(s) {
			t.Errorf("May(%.20q) is true", s)
		}
	}
	for _, s := range allTexts() {
		if !utf8.ValidString(s) && May(s) {
			t.Errorf("May(%q) is true", s)
		}
	}
}

func TestMayOfEveryRune(t *testing.T) {
	for r := rune(0); r <= utf8.MaxRune; r++ {
		if !utf8.ValidRune(r) {
			continue
		}
		want := r >= 33 && (r < 127 || r > 159) && r != 65533
		for _, s := range []string{string(r), "a" + string(r), string(r) + "a"} {
			if May(s) != want {
				t.Fatalf("May(%q) is %v", s, !want)
			}
		}
	}
}

func TestMayByLength(t *testing.T) {
	for _, r := range []string{"a", "é", "日", "\U0001f600"} {
		for n := range 20 {
			if May(strings.Repeat(r, n)) != (n >= 1 && n <= 8) {
				t.Errorf("%d times %q", n, r)
			}
		}
	}
}

func TestKey(t *testing.T) {
	for s, want := range map[string]string{
		"a": "a", "A": "a", "Z": "z", "M": "m", "AbZ": "abz", "AbZÉ": "abzÉ", "[@]`{": "[@]`{", "ANN-2": "ann-2", "日本": "日本",
		"ABCDEFGH": "abcdefgh", "Ａ": "Ａ", "İ": "İ", "\u212a": "\u212a", "ẞ": "ẞ", "ΑΣ": "ΑΣ", "\u00a0A": "\u00a0a", "e\u0301E\u0301": "e\u0301e\u0301",
		"": "", "A B": "", "a\n": "", "\x7f": "", "\u0085": "", "\ufffd": "", "A\xff": "", "\xc3": "", "ABCDEFGHI": "", "日日日日日日日日日": "",
	} {
		if k := Key(s); k != want {
			t.Errorf("Key(%q) = %q, want %q", s, k, want)
		}
	}
}

func TestKeyOfEveryByteAndRune(t *testing.T) {
	for r := rune(0); r <= utf8.MaxRune; r++ {
		if !utf8.ValidRune(r) {
			continue
		}
		s := string(r)
		want := ""
		switch {
		case len(s) == 1 && strings.Contains("ABCDEFGHIJKLMNOPQRSTUVWXYZ", s):
			want = string(r + 32)
		case May(s):
			want = s
		}
		if k := Key(s); k != want {
			t.Fatalf("Key(%q) = %q, want %q", s, k, want)
		}
	}
	for b := 128; b < 256; b++ {
		if k := Key(string([]byte{'A', byte(b)})); k != "" {
			t.Errorf("Key with a wrong byte %x = %q", b, k)
		}
	}
}

func TestKeyOfKey(t *testing.T) {
	for _, s := range allTexts() {
		k := Key(s)
		if (k != "") != May(s) || Key(k) != k || (k != "" && !May(k)) {
			t.Errorf("Key(%q) = %q", s, k)
		}
	}
}

func TestCut(t *testing.T) {
	for _, x := range []struct {
		s    string
		n    int
		want string
	}{
		{"", 0, ""}, {"", 1, ""}, {"", -1, ""},
		{"ab", -1, ""}, {"ab", 0, ""}, {"ab", 1, "a"}, {"ab", 2, "ab"}, {"ab", 3, "ab"},
		{"ab", math.MinInt, ""}, {"ab", math.MaxInt, "ab"}, {"ab", 1 << 32, "ab"}, {"ab", 1<<32 + 1, "ab"}, {"ab", -1 << 32, ""},
		{"é日x", 1, "é"}, {"é日x", 2, "é日"}, {"é日x", 3, "é日x"}, {"\U0001f600a", 1, "\U0001f600"},
		{"a\xff\xfeb", 1, "a"}, {"a\xff\xfeb", 2, "a\xff"}, {"a\xff\xfeb", 3, "a\xff\xfe"}, {"a\xff\xfeb", 4, "a\xff\xfeb"},
		{"\xe6\x97x", 1, "\xe6"}, {"\xe6\x97x", 2, "\xe6\x97"}, {"\xed\xa0\x80x", 2, "\xed\xa0"}, {"\xc0\x80x", 1, "\xc0"},
		{"\ufffd\xffx", 1, "\ufffd"}, {"\ufffd\xffx", 2, "\ufffd\xff"}, {"a b\n\x00", 4, "a b\n"}, {"e\u0301", 1, "e"},
	} {
		if c := Cut(x.s, x.n); c != x.want {
			t.Errorf("Cut(%q, %d) = %q, want %q", x.s, x.n, c, x.want)
		}
	}
}

func TestCutByDefinition(t *testing.T) {
	for _, s := range allTexts() {
		list := pieces(s)
		for n := -2; n <= len(list)+2; n++ {
			want := strings.Join(list[:min(max(n, 0), len(list))], "")
			if c := Cut(s, n); c != want {
				t.Errorf("Cut(%q, %d) = %q, want %q", s, n, c, want)
			}
		}
	}
}

func TestCutOfLongTexts(t *testing.T) {
	s := strings.Repeat("日", 1<<18)
	if Cut(s, 1<<18-1) != s[:len(s)-3] || Cut(s, 1<<18) != s || Cut(s, math.MaxInt) != s || Cut(s, 8) != s[:24] {
		t.Error("long")
	}
}

// TestNewMemory holds that no answer shares bytes with what was handed in.
func TestNewMemory(t *testing.T) {
	s := string([]byte("日本abc"))
	for _, a := range []string{Cut(s, 1), Cut(s, 3), Cut(s, 99), Key(s)} {
		if a == "" || unsafe.StringData(a) == unsafe.StringData(s) {
			t.Errorf("%q shares memory", a)
		}
	}
}
