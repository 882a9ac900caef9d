package tally_test

import (
	"fmt"
	"math"
	"slices"
	"testing"

	"wharfinger/tally"
)

// low and high are numbers of which there can't be so many asked; some of them
// end in the bits of one that may be.
var (
	low  = []int{0, -1, -2, -3, -63, -64, -65, -1 << 31, -1 << 32, -1<<32 + 5, math.MinInt, math.MinInt + 1, math.MinInt + 7}
	high = []int{65, 66, 127, 128, 255, 256, 257, 320, 1<<31 - 1, 1 << 31, 1 << 32, 1<<32 + 1, 1<<32 + 5, 1 << 62, math.MaxInt - 1, math.MaxInt}
)

// far are numbers of nobody, however many are asked.
var far = []int{-1, -2, -63, -64, -65, -256, -1 << 32, -1<<32 + 1, math.MinInt, math.MinInt + 1, 64, 65, 128, 256, 1 << 32, 1<<32 + 1, 1 << 62, math.MaxInt - 1, math.MaxInt}

// call is one call: Close, if close is true, or Say.
type call struct {
	close bool
	who   int
	yes   bool
}

// plain works out what is to be seen from the row of all calls that there were.
type plain struct {
	n    int
	past []call
}

// said tells who said yes, in the calls up to the one that decided, and how it
// stands behind them.
func (p plain) said() (yes []int, forIt, decided bool) {
	for _, c := range p.past {
		switch {
		case c.close:
			return yes, false, true
		case c.who < 0 || c.who >= p.n:
		case slices.Contains(yes, c.who):
		case !c.yes:
			return yes, false, true
		default:
			yes = append(yes, c.who)
		}
		if len(yes) == p.n {
			return yes, true, true
		}
	}
	return yes, false, false
}

// takes tells what Say should answer to a call.
func (p plain) takes(c call) bool {
	yes, _, decided := p.said()
	if decided || c.who < 0 || c.who >= p.n {
		return false
	}
	return c.yes || !slices.Contains(yes, c.who)
}

func (p plain) waits() []int {
	yes, _, decided := p.said()
	if decided {
		return nil
	}
	return without(p.n, yes...)
}

// without tells 0 to n - 1, but for some.
func without(n int, some ...int) []int {
	var l []int
	for i := range n {
		if !slices.Contains(some, i) {
			l = append(l, i)
		}
	}
	return l
}

// see holds what Outcome and Waits tell against what they should.
func see(t *testing.T, what any, y *tally.Tally, forIt, decided bool, waits ...int) {
	t.Helper()
	if f, d := y.Outcome(); f != forIt || d != decided {
		t.Fatalf("%v: Outcome tells %t, %t; want %t, %t", what, f, d, forIt, decided)
	}
	if got := y.Waits(); !slices.Equal(got, waits) {
		t.Fatalf("%v: it waits for %v; want %v", what, got, waits)
	}
}

// say holds what Say tells.
func say(t *testing.T, what any, y *tally.Tally, who int, yes, want bool) {
	t.Helper()
	if got := y.Say(who, yes); got != want {
		t.Fatalf("%v: %d says %t: Say tells %t; want %t", what, who, yes, got, want)
	}
}

// step makes one call on a tally and on a plain one, and holds what is told.
func step(t *testing.T, what any, y *tally.Tally, p *plain, c call) {
	t.Helper()
	if c.close {
		y.Close()
	} else {
		say(t, what, y, c.who, c.yes, p.takes(c))
	}
	p.past = append(p.past, c)
	_, forIt, decided := p.said()
	see(t, what, y, forIt, decided, p.waits()...)
}

// orders tells several orders in which 0 to n - 1 may speak.
func orders(n int) [][]int {
	up := without(n)
	down := slices.Clone(up)
	slices.Reverse(down)
	var odd, turned, mixed []int
	for i := range n {
		turned = append(turned, (i+n/2)%n)
		if i%2 == 1 {
			odd = append(odd, i)
		}
		// 67 and n have no common divisor, so that nobody comes twice.
		mixed = append(mixed, (i*67+5)%n)
	}
	odd = append(odd, without(n, odd...)...)
	return [][]int{up, down, odd, turned, mixed}
}

// P13.1: the example of the chapter.
func TestExample(t *testing.T) {
	y := tally.New(2)
	say(t, "first", y, 0, true, true)
	see(t, "first", y, false, false, 1)
	say(t, "second", y, 1, true, true)
	see(t, "second", y, true, true)
}

// P13.1: one that is asked, written out.
func TestOne(t *testing.T) {
	y := tally.New(1)
	see(t, "new", y, false, false, 0)
	say(t, "nobody", y, 1, true, false)
	see(t, "nobody", y, false, false, 0)
	say(t, "the one", y, 0, true, true)
	see(t, "the one", y, true, true)
	say(t, "behind it", y, 0, true, false)
	see(t, "behind it", y, true, true)

	y = tally.New(1)
	say(t, "the one", y, 0, false, true)
	see(t, "the one", y, false, true)
	say(t, "behind it", y, 0, false, false)
	say(t, "behind it", y, 0, true, false)
	see(t, "behind it", y, false, true)
}

// P13.1: so many are asked, from 1 to 64, and nobody said anything.
func TestNew(t *testing.T) {
	for n := 1; n <= 64; n++ {
		y := tally.New(n)
		if y == nil {
			t.Fatal("no tally")
		}
		see(t, n, y, false, false, without(n)...)
	}
}

// P13.1: other numbers are cut to those that may be: so many are waited for,
// and all of them have to say yes.
func TestNewCut(t *testing.T) {
	for want, wrong := range map[int][]int{1: low, 64: high} {
		for _, n := range wrong {
			y := tally.New(n)
			see(t, n, y, false, false, without(want)...)
			say(t, n, y, want, true, false)
			for i := range want {
				see(t, n, y, false, false, without(want)[i:]...)
				say(t, n, y, i, true, true)
			}
			see(t, n, y, true, true)
		}
	}
}

// P13.1: all say yes, in several orders: it is decided by the last one alone.
func TestAllSayYes(t *testing.T) {
	for n := 1; n <= 64; n++ {
		for _, row := range orders(n) {
			y := tally.New(n)
			for k, who := range row {
				what := fmt.Sprintf("%d asked, %v", n, row[:k+1])
				say(t, what, y, who, true, true)
				see(t, what, y, k+1 == n, k+1 == n, without(n, row[:k+1]...)...)
			}
		}
	}
}

// P13.1: one says no, behind any number of others who said yes: that decides.
func TestOneSaysNo(t *testing.T) {
	for _, n := range []int{1, 2, 3, 5, 8, 63, 64} {
		for _, row := range orders(n) {
			for k, who := range row {
				y := tally.New(n)
				for _, before := range row[:k] {
					say(t, n, y, before, true, true)
				}
				see(t, n, y, false, false, without(n, row[:k]...)...)
				say(t, n, y, who, false, true)
				see(t, n, y, false, true)
				for _, late := range row {
					say(t, n, y, late, true, false)
					say(t, n, y, late, false, false)
				}
				see(t, n, y, false, true)
			}
		}
	}
}

// P13.1: the same said again ahead of the decision: true, and nothing changes;
// it counts once.
func TestSaidAgain(t *testing.T) {
	for _, n := range []int{2, 3, 7, 64} {
		for _, row := range orders(n) {
			y := tally.New(n)
			for k, who := range row[:n-1] {
				say(t, n, y, who, true, true)
				for range n + 1 {
					for _, again := range row[:k+1] {
						say(t, n, y, again, true, true)
					}
				}
				see(t, n, y, false, false, without(n, row[:k+1]...)...)
			}
			say(t, n, y, row[n-1], true, true)
			see(t, n, y, true, true)
		}
	}
}

// P13.1: the other said by one who spoke: false, and nothing changes.
func TestSaidOther(t *testing.T) {
	for _, n := range []int{2, 3, 7, 64} {
		for _, row := range orders(n) {
			y := tally.New(n)
			for k, who := range row[:n-1] {
				say(t, n, y, who, true, true)
				for _, other := range row[:k+1] {
					say(t, n, y, other, false, false)
					say(t, n, y, other, true, true)
					say(t, n, y, other, false, false)
				}
				see(t, n, y, false, false, without(n, row[:k+1]...)...)
			}
			say(t, n, y, row[n-1], true, true)
			see(t, n, y, true, true)
		}
	}
}

// P13.1: whatever is said behind a decision: false, also the same again.
func TestBehindDecision(t *testing.T) {
	decide := map[string]func(*tally.Tally){
		"all": func(y *tally.Tally) { y.Say(0, true); y.Say(1, true); y.Say(2, true) },
		"no":  func(y *tally.Tally) { y.Say(0, true); y.Say(1, false) },
		"up":  func(y *tally.Tally) { y.Say(0, true); y.Close() },
	}
	for name, f := range decide {
		y := tally.New(3)
		f(y)
		see(t, name, y, name == "all", true)
		for range 2 {
			for who := -1; who <= 3; who++ {
				for _, yes := range []bool{true, false} {
					say(t, name, y, who, yes, false)
					see(t, name, y, name == "all", true)
				}
			}
			y.Close()
			see(t, name, y, name == "all", true)
		}
	}
}

// P13.1: Close behind any number of those who say yes, once and more often: it
// decides against it, unless all had said yes.
func TestClose(t *testing.T) {
	for _, n := range []int{1, 2, 3, 10, 64} {
		for _, row := range orders(n) {
			for k := range n + 1 {
				y := tally.New(n)
				for _, who := range row[:k] {
					say(t, n, y, who, true, true)
				}
				for range 3 {
					y.Close()
					see(t, n, y, k == n, true)
					for _, who := range row {
						say(t, n, y, who, true, false)
						say(t, n, y, who, false, false)
					}
					see(t, n, y, k == n, true)
				}
			}
		}
	}
}

// P13.1: Close behind a no changes nothing.
func TestCloseBehindNo(t *testing.T) {
	for n := 1; n <= 64; n++ {
		y := tally.New(n)
		say(t, n, y, n-1, false, true)
		for range 2 {
			y.Close()
			see(t, n, y, false, true)
		}
	}
}

// P13.1: nobody but 0 to n - 1 is asked: false, ahead of the decision and
// behind it, and nothing changes.
func TestNobody(t *testing.T) {
	for n := 1; n <= 64; n++ {
		wrong := append([]int{n, n + 1, n + 64, n + 256, n + 1<<32, n - 64 - 1}, far...)
		y := tally.New(n)
		for i := range n {
			for _, who := range wrong {
				say(t, n, y, who, true, false)
				say(t, n, y, who, false, false)
			}
			see(t, n, y, false, false, without(n)[i:]...)
			say(t, n, y, i, true, true)
		}
		for _, who := range wrong {
			say(t, n, y, who, true, false)
			say(t, n, y, who, false, false)
		}
		see(t, n, y, true, true)

		y = tally.New(n)
		y.Close()
		for _, who := range wrong {
			say(t, n, y, who, true, false)
			say(t, n, y, who, false, false)
		}
		see(t, n, y, false, true)
	}
}

// calls tells all calls of interest where n are asked.
func calls(n int) []call {
	l := []call{{close: true}}
	for who := -1; who <= n; who++ {
		l = append(l, call{who: who, yes: true}, call{who: who})
	}
	return l
}

// eachRow goes over all rows of so many calls.
func eachRow(l []call, long int, do func([]call)) {
	row := make([]call, long)
	var fill func(int)
	fill = func(i int) {
		if i == long {
			do(row)
			return
		}
		for _, row[i] = range l {
			fill(i + 1)
		}
	}
	fill(0)
}

// P13.1: every short row of calls, held against what was said in it.
func TestRows(t *testing.T) {
	for n, long := range map[int]int{1: 5, 2: 5, 3: 5, 4: 4} {
		eachRow(calls(n), long, func(row []call) {
			y, p := tally.New(n), plain{n: n}
			for _, c := range row {
				step(t, row, y, &p, c)
			}
		})
	}
}

// stays makes the calls of a row, and holds that what is decided stays, and
// that it is for it just if all said yes, and nobody closed it ahead of that.
func stays(t *testing.T, n int, row []call) {
	t.Helper()
	y := tally.New(n)
	yes, closed, all := map[int]int{}, false, false
	was, done := false, false
	for _, c := range row {
		if c.close {
			closed = true
			y.Close()
		} else if y.Say(c.who, c.yes) && c.yes {
			yes[c.who]++
		}
		all = all || !closed && len(yes) == n
		forIt, decided := y.Outcome()
		if done && (forIt != was || !decided) {
			t.Fatalf("%d asked, %v: it was decided %t, and is %t, %t", n, row, was, forIt, decided)
		}
		if forIt != all || forIt && !decided || closed && !decided {
			t.Fatalf("%d asked, %v: Outcome tells %t, %t; all said yes: %t", n, row, forIt, decided, all)
		}
		was, done = forIt, decided
	}
}

// P13.2: in every short row of calls what is decided stays, and is for it just
// if all said yes ahead of Close.
func TestStays(t *testing.T) {
	for n, long := range map[int]int{1: 5, 2: 5, 3: 5} {
		eachRow(calls(n), long, func(row []call) { stays(t, n, row) })
	}
}

// P13.2: what follows is not by chance never so: each way of deciding is found.
func TestStaysEither(t *testing.T) {
	found := map[[2]bool]int{}
	eachRow(calls(2), 3, func(row []call) {
		y := tally.New(2)
		for _, c := range row {
			if c.close {
				y.Close()
			} else {
				y.Say(c.who, c.yes)
			}
		}
		forIt, decided := y.Outcome()
		found[[2]bool{forIt, decided}]++
	})
	for _, o := range [][2]bool{{false, false}, {false, true}, {true, true}} {
		if found[o] == 0 {
			t.Errorf("never %v", o)
		}
	}
	if len(found) != 3 {
		t.Errorf("%v", found)
	}
}

// longRow tells a row of calls without an order: of some, who says no and Close
// are seldom or never, so that it may come to a decision late.
func longRow(seed, n, long int) []call {
	next := seed
	draw := func(below int) int {
		next = (next*1103515245 + 12345) % (1 << 31)
		return next >> 8 % below
	}
	var row []call
	for range long {
		c := call{who: draw(n+4) - 2, yes: true}
		switch {
		case seed%3 == 0 && draw(4*n) == 0:
			c = call{close: true}
		case seed%3 == 1 && draw(4*n) == 0:
			c.yes = false
		}
		row = append(row, c)
	}
	return row
}

// P13.1, P13.2: long rows of calls without an order.
func TestLongRows(t *testing.T) {
	for seed := range 300 {
		n := []int{1, 2, 5, 17, 31, 32, 33, 63, 64}[seed%9]
		row := longRow(seed, n, 6*n+20)
		y, p := tally.New(n), plain{n: n}
		for i, c := range row {
			step(t, fmt.Sprintf("seed %d, call %d", seed, i), y, &p, c)
		}
		stays(t, n, row)
	}
}

// R2: a row that Waits told is the caller's own.
func TestWaitsIsOwn(t *testing.T) {
	y := tally.New(5)
	say(t, "new", y, 2, true, true)
	first, second := y.Waits(), y.Waits()
	for i := range first {
		first[i] = 2
	}
	first = append(first[:0], 9, 9)
	if !slices.Equal(second, []int{0, 1, 3, 4}) {
		t.Errorf("the other row became %v", second)
	}
	see(t, "changed", y, false, false, 0, 1, 3, 4)
	say(t, "changed", y, 0, true, true)
	if !slices.Equal(first, []int{9, 9}) || !slices.Equal(second, []int{0, 1, 3, 4}) {
		t.Errorf("rows told earlier became %v, %v", first, second)
	}
	clear(second)
	say(t, "changed", y, 1, true, true)
	say(t, "changed", y, 3, true, true)
	see(t, "changed", y, false, false, 4)
	say(t, "changed", y, 4, true, true)
	see(t, "changed", y, true, true)
}

// R2: tallies keep to themselves.
func TestApart(t *testing.T) {
	a, b := tally.New(2), tally.New(3)
	say(t, "one", a, 0, true, true)
	see(t, "the other", b, false, false, 0, 1, 2)
	say(t, "the other", b, 1, true, true)
	see(t, "one", a, false, false, 1)
	say(t, "the other", b, 0, false, true)
	see(t, "the other", b, false, true)
	see(t, "one", a, false, false, 1)
	say(t, "one", a, 1, true, true)
	see(t, "one", a, true, true)
	b.Close()
	see(t, "one", a, true, true)
	c, d := tally.New(2), tally.New(2)
	c.Close()
	see(t, "closed", c, false, true)
	see(t, "beside it", d, false, false, 0, 1)
	say(t, "beside it", d, 1, true, true)
	say(t, "beside it", d, 0, true, true)
	see(t, "beside it", d, true, true)
	see(t, "closed", c, false, true)
	see(t, "a third one", tally.New(2), false, false, 0, 1)
}

// R6: asking changes nothing, wherever a tally stands.
func TestAsking(t *testing.T) {
	y := tally.New(6)
	for i := range 6 {
		for range 20 {
			see(t, i, y, false, false, without(6)[i:]...)
		}
		say(t, i, y, i, true, true)
	}
	for range 20 {
		see(t, "for it", y, true, true)
	}
	y = tally.New(6)
	y.Close()
	for range 20 {
		see(t, "closed", y, false, true)
	}
}

// P13.1: a nil tally tells zero values, at every call and in any order.
func TestNil(t *testing.T) {
	var none *tally.Tally
	for range 3 {
		see(t, "nil", none, false, false)
		for _, who := range append([]int{0, 1, 2, 63}, far...) {
			say(t, "nil", none, who, true, false)
			say(t, "nil", none, who, false, false)
			see(t, "nil", none, false, false)
		}
		none.Close()
	}
}

// R3: a tally that New did not make is one of which nobody is asked; no call on
// it panics, and it is never for it.
func TestZeroTally(t *testing.T) {
	var y tally.Tally
	for range 3 {
		see(t, "zero", &y, false, false)
		for _, who := range append([]int{0, 1, 2, 63}, far...) {
			say(t, "zero", &y, who, true, false)
			say(t, "zero", &y, who, false, false)
		}
	}
	y.Close()
	see(t, "zero, closed", &y, false, true)
}
