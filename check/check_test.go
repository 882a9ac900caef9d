package check_test

import (
	"math/big"
	"strings"
	"testing"
	"unsafe"

	"wharfinger/check"
)

// texts are signed and read, changed and exchanged: short ones, bytes at the
// edges, bars, letters, and what a journal holds.
var texts = []string{
	"", "a", "b", "|", " ", "\x00", "\xff", "\x80",
	"ab", "ba", "||", "a|", "|a", "\x00\x00", "\xff\xff", "\x00\xff", "\xff\x00", "\x00\x01",
	"abc", "|aa", "ab|pb", "ab|pb|", "|ab|pb", "did 7 2 -5", "wharfinger",
	"\x00\x00\x00", "\xff\xff\xff", "żółw", "\xc3\x28",
	strings.Repeat("\x00", 80), strings.Repeat("\xff", 80), strings.Repeat("ab|", 30),
}

// long are texts longer than the weights' round, and than a line.
var long = []string{
	strings.Repeat("wharfinger", 50),
	strings.Repeat("\xff", 673),
	strings.Repeat("\xff", 1<<16+1),
	strings.Repeat("\x00", 1000) + "\x01",
	strings.Repeat("orders are filled whole or not at all|", 300),
}

// exact is what the document says of the letters, in numbers that have no
// bound: the weights are powers of three, taken whole.
func exact(s string) string {
	sum, weight := new(big.Int), big.NewInt(1)
	for i := range len(s) {
		sum.Add(sum, new(big.Int).Mul(weight, big.NewInt(int64(s[i]))))
		weight.Mul(weight, big.NewInt(3))
	}
	n := int(sum.Mod(sum, big.NewInt(673)).Int64())
	const abc = "abcdefghijklmnopqrstuvwxyz"
	return string([]byte{abc[n/26], abc[n%26]})
}

// P2.1: letters that the document or a short sum by hand tells.
func TestLettersByHand(t *testing.T) {
	for _, c := range []struct{ s, want string }{
		{"", "aa"},
		{"ab", "pb"}, // 97 + 3*98 = 391
		{"ba", "oz"}, // 98 + 3*97 = 389
		{"a", "dt"},  // 97
		{"\x00", "aa"},
		{"\x00\x00", "aa"},
		{"\x01", "ab"},
		{"\x19", "az"}, // 25
		{"\x1a", "ba"}, // 26
		{"\xff", "jv"}, // 255
		{"\x00\x01", "ad"},
		{"\xff\xff", "nj"},                     // 255 + 765 = 1020, and 673 less: 347
		{"\x00\xe0", "zw"},                     // 3*224 = 672, the greatest one
		{"\x01\xe0", "aa"},                     // 673, which is none
		{"\x02\xe0", "ab"},                     // 674
		{"\x00\x00\x00\x00\x00\x00\x01", "ce"}, // 729, and 673 less: 56
	} {
		if got := check.Letters(c.s); got != c.want {
			t.Errorf("Letters(%q) = %q; want %q", c.s, got, c.want)
		}
	}
}

// P2.1: the letters of every text of one byte, of every text of two, and of
// the others, held against exact numbers.
func TestLettersExact(t *testing.T) {
	hold := func(s string) {
		if got, want := check.Letters(s), exact(s); got != want {
			t.Errorf("Letters(%.40q), of %d bytes, = %q; want %q", s, len(s), got, want)
		}
	}
	for a := range 256 {
		hold(string([]byte{byte(a)}))
		for b := range 256 {
			hold(string([]byte{byte(a), byte(b)}))
		}
	}
	for _, s := range texts {
		hold(s)
	}
	for _, s := range long[:2] {
		hold(s)
	}
	for n := range 700 {
		hold(strings.Repeat("\x00", n) + "\x01")
	}
}

// P2.1: of texts so long that exact sums would take too long.
func TestLettersLong(t *testing.T) {
	for _, s := range long {
		n, w := 0, 1
		for _, b := range []byte(s) {
			n = (n + w*int(b)) % 673
			w = 3 * w % 673
		}
		want := string([]byte{byte('a' + n/26), byte('a' + n%26)})
		if got := check.Letters(s); got != want {
			t.Errorf("Letters of %d bytes = %q; want %q", len(s), got, want)
		}
	}
}

// P2.1: the letters are two, a to z, whatever the text.
func TestLettersAreTwo(t *testing.T) {
	for a := range 256 {
		for b := range 256 {
			s := string([]byte{byte(a), byte(b)})
			l := check.Letters(s)
			if len(l) != 2 || l[0] < 'a' || l[0] > 'z' || l[1] < 'a' || l[1] > 'z' {
				t.Fatalf("Letters(%q) = %q", s, l)
			}
		}
	}
}

// P2.1: what is signed is the text, the bar and the letters.
func TestSign(t *testing.T) {
	for s, want := range map[string]string{
		"":      "|aa",
		"a":     "a|dt",
		"ab":    "ab|pb",
		"\x00":  "\x00|aa",
		"\xff":  "\xff|jv",
		"|":     "||" + exact("|"),
		"a|b":   "a|b|" + exact("a|b"),
		"ab|pb": "ab|pb|" + exact("ab|pb"),
	} {
		if got := check.Sign(s); got != want {
			t.Errorf("Sign(%q) = %q; want %q", s, got, want)
		}
	}
	for _, s := range append(texts, long...) {
		if got, want := check.Sign(s), s+"|"+check.Letters(s); got != want {
			t.Errorf("Sign(%.40q) = %.40q; want %.40q", s, got, want)
		}
	}
}

// P2.1: what was signed is read, as often as it was signed.
func TestReadSigned(t *testing.T) {
	for _, s := range append(texts, long...) {
		once := check.Sign(s)
		twice := check.Sign(once)
		if got, ok := check.Read(once); got != s || !ok {
			t.Errorf("Read(Sign(%.40q)) = %.40q, %v", s, got, ok)
		}
		if got, ok := check.Read(twice); got != once || !ok {
			t.Errorf("Read(Sign(Sign(%.40q))) = %.40q, %v", s, got, ok)
		}
	}
}

func refuse(t *testing.T, s string) {
	t.Helper()
	if got, ok := check.Read(s); got != "" || ok {
		t.Errorf("Read(%.40q) = %.40q, %v; want nothing", s, got, ok)
	}
}

// P2.1: what was not signed is not read, and nothing is told beside the no.
func TestReadWrong(t *testing.T) {
	for _, s := range []string{
		"", "|", "a", "aa", "|a", "a|", "||", "\x00", "\xff\xff", // shorter than three bytes
		"aaa", "|ab", "|ba", "|AA", "|aA", "|  ", "|||", "\x00aa", "|\x00\x00", // of three bytes
		"ab", "abpb", "ab.pb", "ab pb", "ab\x00pb", "ab\xfcpb", "ab/pb", // without the bar
		"ab|pa", "ab|oz", "ab|PB", "ab|pB", "ab|Pb", "ab|bp", "ab|aa", "ab|zz", // other letters
		"aa|pb", "ba|pb", "ab|pb ", " ab|pb", "ab|pb|", "ab|pb\x00", "ab||pb", "ab|p", "ab|", "ab|pbx", "b|pb", "a|pb",
		"|aa|", "|aa|aa", "a|b|pb",
	} {
		refuse(t, s)
	}
}

// P2.1: of all that may stand behind a text the letters alone will do.
func TestReadTails(t *testing.T) {
	for _, text := range []string{"", "ab", "did 7 2 -5"} {
		letters := check.Letters(text)
		for a := range 256 {
			for b := range 256 {
				l := string([]byte{byte(a), byte(b)})
				if _, ok := check.Read(text + "|" + l); ok != (l == letters) {
					t.Errorf("Read(%q) says %v", text+"|"+l, ok)
				}
			}
			if _, ok := check.Read(text + string([]byte{byte(a)}) + letters); ok != (a == '|') {
				t.Errorf("the byte %d as a bar: %v", a, ok)
			}
		}
	}
}

// P2.1: what is read is what it takes, for every text of three and four bytes
// of a few: t, the bar, Letters of t.
func TestReadAll(t *testing.T) {
	few := []byte("\x00|abdt\xff")
	var try func(b []byte)
	try = func(b []byte) {
		s := string(b)
		want, ok := "", false
		if n := len(s) - 3; n >= 0 && s == s[:n]+"|"+exact(s[:n]) {
			want, ok = s[:n], true
		}
		if got, is := check.Read(s); got != want || is != ok {
			t.Errorf("Read(%q) = %q, %v; want %q, %v", s, got, is, want, ok)
		}
		if len(b) == 5 {
			return
		}
		for _, c := range few {
			try(append(b, c))
		}
	}
	try(nil)
}

// P2.2: with one byte changed the letters are others, at every place, for
// every other byte.
func TestOneByteChanged(t *testing.T) {
	for _, s := range append(texts, strings.Repeat("wharfinger", 70)) {
		letters := check.Letters(s)
		b := []byte(s)
		for i := range b {
			was := b[i]
			for c := range 256 {
				b[i] = byte(c)
				if got := check.Letters(string(b)); (got == letters) != (b[i] == was) {
					t.Errorf("%.40q with byte %d made %d has %q, without %q", s, i, c, got, letters)
				}
			}
			b[i] = was
		}
	}
}

// P2.2: with two bytes side by side exchanged the letters are others, unless
// the two are the same.
func TestTwoExchanged(t *testing.T) {
	for _, s := range append(texts, long[0], long[4]) {
		letters := check.Letters(s)
		b := []byte(s)
		for i := 1; i < len(b); i++ {
			b[i-1], b[i] = b[i], b[i-1]
			if got := check.Letters(string(b)); (got == letters) != (b[i-1] == b[i]) {
				t.Errorf("%.40q with bytes %d and %d exchanged has %q, and %q", s, i-1, i, got, letters)
			}
			b[i-1], b[i] = b[i], b[i-1]
		}
	}
}

// P2.2: any two bytes exchanged, with something ahead and behind.
func TestAnyTwoExchanged(t *testing.T) {
	for a := range 256 {
		for b := range a {
			x, y := string([]byte{byte(a), byte(b)}), string([]byte{byte(b), byte(a)})
			for _, ahead := range []string{"", "did ", "\xff"} {
				if check.Letters(ahead+x+"!") == check.Letters(ahead+y+"!") {
					t.Errorf("%q has the letters of %q", ahead+x, ahead+y)
				}
			}
		}
	}
}

// P2.2: what was signed and then got a slip, in the text, the bar or the
// letters, is not read.
func TestSlipsAreTold(t *testing.T) {
	for _, s := range texts {
		b := []byte(check.Sign(s))
		for i := range b {
			was := b[i]
			for c := range 256 {
				if b[i] = byte(c); b[i] != was {
					refuse(t, string(b))
				}
			}
			b[i] = was
			if i > 0 && b[i-1] != b[i] {
				b[i-1], b[i] = b[i], b[i-1]
				refuse(t, string(b))
				b[i-1], b[i] = b[i], b[i-1]
			}
		}
	}
}

// R2: what is told is new memory.
func TestNewMemory(t *testing.T) {
	line := strings.Clone("did 7 2 -5|" + check.Letters("did 7 2 -5"))
	got, ok := check.Read(line)
	if !ok || unsafe.StringData(got) == unsafe.StringData(line) {
		t.Errorf("Read(%q) = %q, %v, and shares its memory", line, got, ok)
	}
	if signed := check.Sign(got); unsafe.StringData(signed) == unsafe.StringData(got) {
		t.Errorf("Sign(%q) shares its memory", got)
	}
}

// R6: an answer hangs on what is handed in alone.
func TestSameAgain(t *testing.T) {
	for range 2 {
		for _, s := range texts {
			if l := check.Letters(s); l != exact(s) {
				t.Errorf("Letters(%q) = %q", s, l)
			}
		}
	}
}
