package entry_test

import (
	"math"
	"reflect"
	"regexp"
	"slices"
	"strconv"
	"strings"
	"testing"
	"unsafe"

	"wharfinger/api"
	"wharfinger/check"
	"wharfinger/entry"
)

// asked is what the document says a line is, ahead of its bar, in a form that
// has nothing of the program in it.
var asked = regexp.MustCompile(`\A[a-z]{1,8} (0|[1-9][0-9]{0,2})( (0|-?[1-9][0-9]{0,8}|-?1000000000)){0,4}\z`)

// wanted is what Parse has to tell of s beside the entry.
func wanted(s string) api.Errno {
	if len(s) > 80 {
		return api.ErrForm
	}
	t, ok := check.Read(s)
	switch {
	case !ok:
		return api.ErrCheck
	case !asked.MatchString(t):
		return api.ErrForm
	}
	return api.OK
}

// holdParse holds what Parse tells of s against wanted, and, where there is an
// entry, its line against s.
func holdParse(t *testing.T, s string) {
	t.Helper()
	e, no := entry.Parse(s)
	if want := wanted(s); no != want {
		t.Errorf("Parse(%q) = %v, %d; want %d", s, e, no, want)
		return
	}
	if no != api.OK {
		if !reflect.DeepEqual(e, api.Entry{}) {
			t.Errorf("Parse(%q) = %v beside %d; want nothing", s, e, no)
		}
		return
	}
	if back, no := entry.Line(e); back != s || no != api.OK || !entry.May(e) {
		t.Errorf("Line(%v) = %q, %d; want %q, which it was read from", e, back, no, s)
	}
}

// goodKinds, goodIds and goodNumbers are ordinary ones, and those at the edges.
var (
	goodKinds   = []string{"a", "z", "az", "did", "undid", "abcdefg", "abcdefgh", "zzzzzzzz"}
	goodIds     = []int{0, 1, 7, 9, 10, 99, 100, 998, 999}
	goodNumbers = [][]int{
		nil, {}, {0}, {1}, {-1}, {2}, {10}, {-10}, {1000000000}, {-1000000000}, {999999999}, {-999999999},
		{0, 0}, {1, 2}, {2, 1}, {-1000000000, 1000000000},
		{0, 0, 0}, {1, -2, 3}, {5, 0, -5},
		{0, 0, 0, 0}, {1, 2, 3, 4}, {-1000000000, 0, 1000000000, -1},
		{-1000000000, -1000000000, -1000000000, -1000000000}, {1000000000, 1000000000, 1000000000, 1000000000},
	}
)

// good are all entries of those.
func good() []api.Entry {
	var all []api.Entry
	for _, kind := range goodKinds {
		for _, id := range goodIds {
			for _, n := range goodNumbers {
				all = append(all, api.Entry{Kind: kind, Id: id, N: slices.Clone(n)})
			}
		}
	}
	return all
}

// bad are entries that may not be, each for one cause.
func bad() []api.Entry {
	var all []api.Entry
	for _, kind := range []string{
		"", "abcdefghi", strings.Repeat("a", 80), strings.Repeat("a", 1<<16), "A", "Z", "aB", "Ba", "aBa", "`", "{", "a`", "a{", "a b", " a", "a ", " ",
		"a1", "1", "0", "-", "a-", "|", "a|b", "é", "aé", "a\x00", "\x00", "\xff", "a\n", "\ta", "ａ",
	} {
		all = append(all, api.Entry{Kind: kind}, api.Entry{Kind: kind, Id: 7, N: []int{2}})
	}
	for _, id := range []int{-1, -2, -999, 1000, 1001, 1000000000, math.MinInt, math.MaxInt} {
		all = append(all, api.Entry{Kind: "a", Id: id}, api.Entry{Kind: "did", Id: id, N: []int{1, 2}})
	}
	for _, n := range []int{-1000000001, 1000000001, math.MinInt, math.MaxInt} {
		for place := range 4 {
			list := make([]int, 4)
			list[place] = n
			all = append(all, api.Entry{Kind: "a", Id: 1, N: list}, api.Entry{Kind: "a", Id: 1, N: slices.Clone(list[:place+1])})
		}
	}
	for _, n := range []int{5, 6, 7, 8, 1000} {
		all = append(all, api.Entry{Kind: "a", Id: 1, N: make([]int, n)})
	}
	return append(all, api.Entry{}, api.Entry{Kind: "a", Id: 1000, N: make([]int, 5)})
}

// P3.1: entries that may be, and the lines of some that the document, or a look
// at it, tells.
func TestLineByHand(t *testing.T) {
	for _, c := range []struct {
		e    api.Entry
		want string
	}{
		{api.Entry{Kind: "did", Id: 7, N: []int{2}}, "did 7 2|"},
		{api.Entry{Kind: "a"}, "a 0|"},
		{api.Entry{Kind: "a", N: []int{}}, "a 0|"},
		{api.Entry{Kind: "z", Id: 999}, "z 999|"},
		{api.Entry{Kind: "a", N: []int{0}}, "a 0 0|"},
		{api.Entry{Kind: "a", Id: 10, N: []int{-1, 20, -300, 4000}}, "a 10 -1 20 -300 4000|"},
		{api.Entry{Kind: "abcdefgh", Id: 999, N: []int{-1000000000, 1000000000, 0, -1}}, "abcdefgh 999 -1000000000 1000000000 0 -1|"},
	} {
		want := c.want + check.Letters(strings.TrimSuffix(c.want, "|"))
		if got, no := entry.Line(c.e); got != want || no != api.OK {
			t.Errorf("Line(%v) = %q, %d; want %q", c.e, got, no, want)
		}
	}
	// 97 + 3*32 + 9*48 = 625, which is 24 times 26 and 1.
	if got, no := entry.Line(api.Entry{Kind: "a"}); got != "a 0|yb" || no != api.OK {
		t.Errorf("Line of a and 0 = %q, %d", got, no)
	}
}

// P3.1, P3.3: every entry that may be has a line, of the form that is asked
// for, and Parse of it is the entry.
func TestLineAndBack(t *testing.T) {
	for _, e := range good() {
		s, no := entry.Line(e)
		if no != api.OK || !entry.May(e) || wanted(s) != api.OK {
			t.Errorf("%v: May %v, Line %q, %d", e, entry.May(e), s, no)
			continue
		}
		back, no := entry.Parse(s)
		alike := back.Kind == e.Kind && back.Id == e.Id && slices.Equal(back.N, e.N)
		if no != api.OK || !alike || !entry.Same(back, e) || !entry.Same(e, back) {
			t.Errorf("Parse(%q) = %v, %d; want %v", s, back, no, e)
		}
	}
}

// P3.1: entries that may not be have no line.
func TestMayNot(t *testing.T) {
	for _, e := range bad() {
		if s, no := entry.Line(e); entry.May(e) || s != "" || no != api.ErrArg {
			t.Errorf("%.40q %d %v: May %v, Line %q, %d; want ErrArg", e.Kind, e.Id, e.N, entry.May(e), s, no)
		}
	}
}

// P3.1: of all signs there are letters alone may stand in a Kind, whichever
// place they stand at.
func TestKindByBytes(t *testing.T) {
	for b := range 256 {
		want := b >= 'a' && b <= 'z'
		for place := range 8 {
			kind := []byte("abcdefgh")
			kind[place] = byte(b)
			if got := entry.May(api.Entry{Kind: string(kind)}); got != want {
				t.Errorf("May of Kind %q = %v", kind, got)
			}
		}
		if got := entry.May(api.Entry{Kind: string([]byte{byte(b)})}); got != want {
			t.Errorf("May of Kind of the byte %d alone = %v", b, got)
		}
	}
	for n := range 20 {
		if got := entry.May(api.Entry{Kind: strings.Repeat("k", n)}); got != (n >= 1 && n <= 8) {
			t.Errorf("May of a Kind of %d letters = %v", n, got)
		}
	}
}

// P3.1: entries are the same when they are alike in all, whether they may be
// or not.
func TestSame(t *testing.T) {
	lists := [][]int{{}, {2}, {3}, {2, 3}, {3, 2}, {2, 3, 0}, {0, 2, 3}, {2, 4}, {1, 3}, {-2}, {1, 2, 3, 4, 5}, {1, 2, 3, 4, 6}, {math.MinInt}, {math.MaxInt}}
	var all []api.Entry
	for _, kind := range []string{"", "a", "b", "ab", "A", "a ", "\xff"} {
		for _, id := range []int{-1, 0, 1, 999, 1000, math.MaxInt, math.MinInt} {
			for _, n := range lists {
				all = append(all, api.Entry{Kind: kind, Id: id, N: n})
			}
		}
	}
	for i, a := range all {
		for j, b := range all {
			twin := api.Entry{Kind: strings.Clone(b.Kind), Id: b.Id, N: slices.Clone(b.N)}
			if got := entry.Same(a, twin); got != (i == j) {
				t.Fatalf("Same(%v, %v) = %v", a, b, got)
			}
		}
	}
	none, empty := api.Entry{Kind: "a"}, api.Entry{Kind: "a", N: []int{}}
	if !entry.Same(none, empty) || !entry.Same(empty, none) || !entry.Same(none, none) {
		t.Error("no numbers, as nil and as an empty list, are not the same")
	}
}

// P3.2: texts that are signed and are no lines.
func TestParseNoLines(t *testing.T) {
	for _, s := range []string{
		"", " ", "  ", "a", "a ", " 1", "1", "1 1", "0", "-", "|", "a|", "a 1|", "a 1|2", "a|1",
		"a  1", " a 1", "a 1 ", "a 1  2", "a 1 2 ", "a 1  ", "  a 1", "a   1", "a 1 2  3", "a 1 2 3 4 5 ", "a 1 2 3 4  5",
		"a 01", "a 00", "a 007", "a 0000", "a 1 00", "a 1 01", "a 1 -01", "a 1 2 03", "a 1 2 3 4 05",
		"a -", "a 1 -", "a 1 - 2", "a -0", "a 1 -0", "a 1 --1", "a 1 1-", "a 1 -1-", "a 1 - 1",
		"a +1", "a +0", "a 1 +2", "a 1 +0", "a 1 +-2", "a 1 -+2",
		"a -1", "a 1000", "a 1001", "a 1000000000", "a -999", "a 99999999999999999999", "a -99999999999999999999",
		"a 1 1000000001", "a 1 -1000000001", "a 1 2 3 4 1000000001", "a 1 9223372036854775807", "a 1 -9223372036854775808",
		"a 1 9223372036854775808", "a 1 18446744073709551616", "a 1 18446744073709551617", "a 1 99999999999999999999999999999999",
		"a 1 2 3 4 5 6", "a 1 2 3 4 5 6 7", "a 0 0 0 0 0 0",
		"A 1", "aB 1", "a1 1", "abcdefghi 1", "abcdefghi 1 2", "é 1", "a\x00 1", "\xff 1", "a- 1", "a b", "a b 1", "a 1 b", "a 1 2 b", "ab c 1", "a 1 2 3 4 b",
		"a\t1", "a\n1", "a 1\n", "a 1\t2", "\na 1", "a 1\x00", "a\u00a01", "a 1\r\n",
		"a 1.0", "a 1 2.0", "a 1e2", "a 0x1", "a 1 0x1", "a 1_0", "a 1 1_0", "a 1,2", "a 1 0b1", "a 1 0o7", "a NaN", "a 1 Inf", "a ١", "a １",
	} {
		signed := check.Sign(s)
		if e, no := entry.Parse(signed); no != api.ErrForm || !reflect.DeepEqual(e, api.Entry{}) {
			t.Errorf("Parse(%q) = %v, %d; want ErrForm", signed, e, no)
		}
	}
}

// P3.2: texts that are not signed are told so, be they lines else or not.
func TestParseNotSigned(t *testing.T) {
	for _, s := range []string{
		"", "a", "|", "||", "|a", "aa", "|ab", "a 1", "a 1|", "a 1|a", "did 7 2", "did 7 2|aa", "did 7 2|", "did 7 2aa", "a 0|yc", "a 0|yb ", " a 0|yb", "a 0|YB", "a 0|yb|", "a 0 yb",
		check.Sign("a 1") + "x", check.Sign("a 1") + "\n", "x" + check.Sign("a 1"), check.Sign("A 1")[1:], strings.Repeat("a", 80), strings.Repeat("\xff", 80),
	} {
		if e, no := entry.Parse(s); no != api.ErrCheck || !reflect.DeepEqual(e, api.Entry{}) {
			t.Errorf("Parse(%q) = %v, %d; want ErrCheck", s, e, no)
		}
	}
}

// P3.2: up to 80 bytes it is the check that is asked first, from 81 on there
// is none.
func TestParseLong(t *testing.T) {
	for _, c := range []struct {
		s    string
		want api.Errno
	}{
		{strings.Repeat("a", 79), api.ErrCheck},
		{strings.Repeat("a", 80), api.ErrCheck},
		{strings.Repeat("a", 81), api.ErrForm},
		{strings.Repeat("a", 1<<20), api.ErrForm},
		{check.Sign(strings.Repeat("a", 77)), api.ErrForm},
		{check.Sign(strings.Repeat("a", 78)), api.ErrForm},
		{check.Sign("a 1 " + strings.Repeat("0", 73)), api.ErrForm},
		{check.Sign("a 1 " + strings.Repeat("0", 74)), api.ErrForm},
		{check.Sign("a 1" + strings.Repeat(" ", 74)), api.ErrForm},
		{check.Sign("a 1" + strings.Repeat(" ", 75)), api.ErrForm},
		{check.Sign("a " + strings.Repeat(" 1", 5000)), api.ErrForm},
	} {
		if e, no := entry.Parse(c.s); no != c.want || !reflect.DeepEqual(e, api.Entry{}) {
			t.Errorf("Parse of %d bytes = %v, %d; want %d", len(c.s), e, no, c.want)
		}
	}
}

// P3.2, P3.3: every short text of signs that lines are made of, signed.
func TestParseAllShort(t *testing.T) {
	const signs = "az 019-+|"
	texts := []string{""}
	for range 6 {
		for _, s := range texts {
			holdParse(t, check.Sign(s))
		}
		var next []string
		for _, s := range texts {
			for i := range len(signs) {
				next = append(next, s+signs[i:i+1])
			}
		}
		texts = next
	}
}

// P3.2, P3.3: every text of a Kind and up to six words, good and bad ones, with
// one space between them or, at one place, another thing.
func TestParseAllWords(t *testing.T) {
	words := []string{"0", "7", "-7", "1000000000", "1000000001", "-0", ""}
	texts := []string{"did"}
	for range 6 {
		var next []string
		for _, s := range texts {
			for _, w := range words {
				next = append(next, s+" "+w)
			}
		}
		texts = next
		for _, s := range texts {
			holdParse(t, check.Sign(s))
		}
	}
	for _, gap := range []string{"", "  ", "\t", "\n", "|", "-", "+", "0", "\x00", "\u00a0", ","} {
		for place := range 5 {
			s := "did"
			for i := range 5 {
				if i == place {
					s += gap + "12"
				} else {
					s += " 12"
				}
			}
			holdParse(t, check.Sign(s))
		}
	}
}

// P3.2, P3.3: every Id and every number near the bounds, each in its only form.
func TestParseNumbers(t *testing.T) {
	for n := -1100; n <= 1100; n++ {
		digits := strconv.Itoa(n)
		holdParse(t, check.Sign("a "+digits))
		holdParse(t, check.Sign("a 1 "+digits))
		holdParse(t, check.Sign("a 0"+digits))
		holdParse(t, check.Sign("a 1 +"+digits))
	}
	for _, bound := range []int{-1000000000, 1000000000} {
		for off := -50; off <= 50; off++ {
			digits := strconv.Itoa(bound + off)
			for _, s := range []string{"a 1 ", "a 1 2 3 4 ", "a 1 0", "a "} {
				holdParse(t, check.Sign(s+digits))
			}
		}
	}
}

// P3.2, P3.3: a line that lost bytes at its end, or of which one byte is
// another, is told by its check; one that lost a byte elsewhere never reads as
// what its line is not.
func TestParseSlips(t *testing.T) {
	for _, e := range []api.Entry{
		{Kind: "a"}, {Kind: "did", Id: 7, N: []int{2}}, {Kind: "abcdefgh", Id: 999, N: []int{-1000000000, 1000000000, 0, -1}},
		{Kind: "undone", Id: 100, N: []int{1, 2, 3}}, {Kind: "zzzzzzzz", Id: 999, N: []int{-1000000000, -1000000000, -1000000000, -1000000000}},
	} {
		s, _ := entry.Line(e)
		for n := range len(s) {
			if e, no := entry.Parse(s[:n]); no != api.ErrCheck || !reflect.DeepEqual(e, api.Entry{}) {
				t.Errorf("Parse(%q) = %v, %d; want ErrCheck", s[:n], e, no)
			}
			holdParse(t, s[:n]+s[n+1:])
			for b := range 256 {
				if byte(b) == s[n] {
					continue
				}
				slip := s[:n] + string([]byte{byte(b)}) + s[n+1:]
				if e, no := entry.Parse(slip); no != api.ErrCheck || !reflect.DeepEqual(e, api.Entry{}) {
					t.Errorf("Parse(%q) = %v, %d; want ErrCheck", slip, e, no)
				}
			}
		}
	}
}

// R2: what is handed in stays as it was, nothing behind a list's length is
// read, and what is told is new.
func TestMemory(t *testing.T) {
	all := []int{1, 2, math.MaxInt, math.MinInt, 5, 6}
	e := api.Entry{Kind: "did", Id: 7, N: all[:2]}
	s, no := entry.Line(e)
	if no != api.OK || s != check.Sign("did 7 1 2") || !entry.May(e) {
		t.Errorf("Line of a part of a list = %q, %d", s, no)
	}
	if !entry.Same(e, api.Entry{Kind: "did", Id: 7, N: []int{1, 2}}) {
		t.Error("what lies behind a list's length makes a difference")
	}
	if want := []int{1, 2, math.MaxInt, math.MinInt, 5, 6}; !slices.Equal(all, want) {
		t.Errorf("the list was changed: %v", all)
	}
	one, _ := entry.Parse(s)
	two, _ := entry.Parse(s)
	one.N[0] = 99
	if two.N[0] != 1 || all[0] != 1 {
		t.Error("two answers share their numbers")
	}
	three, _ := entry.Parse(s)
	if !entry.Same(three, e) {
		t.Errorf("what was changed in an answer is in the next one: %v", three)
	}
	from := uintptr(unsafe.Pointer(unsafe.StringData(s)))
	kind := uintptr(unsafe.Pointer(unsafe.StringData(three.Kind)))
	if kind >= from && kind < from+uintptr(len(s)) {
		t.Error("the Kind of the answer is a part of the text that was handed in")
	}
}
