package again_test

import (
	"fmt"
	"math"
	"testing"

	"wharfinger/again"
	"wharfinger/api"
)

// waits are those behind one try after the other, of the most that may be.
var waits = []int{1, 2, 4, 8, 16, 16, 16, 16, 16, 16, 16, 16, 16, 16, 16, 16, 16, 16, 16, 16}

// low and high are numbers that may be no tries; some of them end in the bits
// of one that may.
var (
	low  = []int{0, -1, -2, -3, -19, -20, -21, -1 << 31, -1 << 32, -1<<32 + 5, math.MinInt, math.MinInt + 1, math.MinInt + 7}
	high = []int{21, 22, 40, 255, 256, 257, 1<<31 - 1, 1 << 31, 1 << 32, 1<<32 + 1, 1<<32 + 5, 1 << 62, math.MaxInt - 1, math.MaxInt}
)

// plain is a count that works out what is to be seen from what was done: how
// many tries there were, and how many Passes behind the last one.
type plain struct{ tries, tried, passed int }

func (p plain) wait() int {
	if p.tried == 0 || p.passed > waits[p.tried-1] {
		return 0
	}
	return waits[p.tried-1] - p.passed
}

func (p plain) left() int { return p.tries - p.tried }

func (p *plain) try() bool {
	if p.left() == 0 || p.wait() != 0 {
		return false
	}
	p.tried, p.passed = p.tried+1, 0
	return true
}

func (p *plain) pass() bool {
	p.passed++
	return p.wait() == 0
}

// see holds what Wait and Left tell against what they should.
func see(t *testing.T, what any, c *again.Count, wait, left int) {
	t.Helper()
	if c.Wait() != wait || c.Left() != left {
		t.Fatalf("%v: to wait %d, left %d; want %d, %d", what, c.Wait(), c.Left(), wait, left)
	}
}

// try holds what Try tells, and what is to be seen behind it.
func try(t *testing.T, what any, c *again.Count, want bool, wait, left int) {
	t.Helper()
	if got := c.Try(); got != want {
		t.Fatalf("%v: Try tells %t; want %t", what, got, want)
	}
	see(t, what, c, wait, left)
}

// pass holds what Pass tells, and what is to be seen behind it.
func pass(t *testing.T, what any, c *again.Count, want bool, wait, left int) {
	t.Helper()
	if got := c.Pass(); got != want {
		t.Fatalf("%v: Pass tells %t; want %t", what, got, want)
	}
	see(t, what, c, wait, left)
}

// passAll lets a count wait to the end of a wait, and left stays as it is.
func passAll(t *testing.T, what any, c *again.Count, wait, left int) {
	t.Helper()
	for k := wait - 1; k >= 0; k-- {
		pass(t, what, c, k == 0, k, left)
	}
}

// useUp takes the first n of a count's tries, each as soon as it may be, up to
// the nth one and its wait.
func useUp(t *testing.T, c *again.Count, tries, n int) {
	t.Helper()
	for i := range n {
		if i > 0 {
			passAll(t, i, c, waits[i-1], tries-i)
		}
		try(t, i, c, true, waits[i], tries-i-1)
	}
}

// P11.1: the example of the chapter.
func TestExample(t *testing.T) {
	c := again.New(2)
	try(t, "first", c, true, 1, 1)
	try(t, "second", c, false, 1, 1)
	pass(t, "third", c, true, 0, 1)
	try(t, "fourth", c, true, 2, 0)
}

// P11.1: tries and Passes in turn: what each tells, and what is to be seen.
func TestInTurn(t *testing.T) {
	c := again.New(4)
	see(t, "new", c, 0, 4)
	try(t, "try 1", c, true, 1, 3)
	pass(t, "of 1", c, true, 0, 3)
	try(t, "try 2", c, true, 2, 2)
	pass(t, "1 of 2", c, false, 1, 2)
	try(t, "ahead of its time", c, false, 1, 2)
	pass(t, "2 of 2", c, true, 0, 2)
	try(t, "try 3", c, true, 4, 1)
	pass(t, "1 of 4", c, false, 3, 1)
	pass(t, "2 of 4", c, false, 2, 1)
	pass(t, "3 of 4", c, false, 1, 1)
	pass(t, "4 of 4", c, true, 0, 1)
	try(t, "try 4", c, true, 8, 0)
	pass(t, "1 of 8", c, false, 7, 0)
	try(t, "none left", c, false, 7, 0)
}

// P11.1: so many are left, from 1 to MaxTries, and there is nothing to wait for.
func TestNew(t *testing.T) {
	if len(waits) != api.MaxTries {
		t.Fatal("waits are not as many as there may be tries")
	}
	for tries := 1; tries <= 20; tries++ {
		c := again.New(tries)
		if c == nil {
			t.Fatal("no count")
		}
		see(t, tries, c, 0, tries)
		useUp(t, c, tries, tries)
		passAll(t, tries, c, waits[tries-1], 0)
		try(t, tries, c, false, 0, 0)
	}
}

// P11.1: other numbers of tries are cut to those that may be.
func TestNewCut(t *testing.T) {
	for want, wrong := range map[int][]int{1: low, 20: high} {
		for _, tries := range wrong {
			c := again.New(tries)
			see(t, tries, c, 0, want)
			useUp(t, c, want, want)
			passAll(t, tries, c, waits[want-1], 0)
			try(t, tries, c, false, 0, 0)
		}
	}
}

// P11.1: the waits behind one try after the other.
func TestWaits(t *testing.T) {
	c := again.New(20)
	for i, wait := range []int{1, 2, 4, 8, 16, 16, 16, 16, 16, 16, 16, 16, 16, 16, 16, 16, 16, 16, 16, 16} {
		try(t, i, c, true, wait, 19-i)
		passAll(t, i, c, wait, 19-i)
	}
}

// P11.1: nothing changes by a Try while it has to wait, be it once or often, at
// every length of every wait.
func TestTryWhileWaiting(t *testing.T) {
	for _, often := range []int{1, 2, 40} {
		c := again.New(20)
		for i, wait := range waits {
			try(t, i, c, true, wait, 19-i)
			for k := wait; k > 0; k-- {
				for range often {
					try(t, i, c, false, k, 19-i)
				}
				pass(t, i, c, k == 1, k-1, 19-i)
			}
		}
	}
}

// P11.1: a Pass ahead of the first Try tells that it has not to wait; it takes
// no try, and no part of the waits that come.
func TestPassAheadOfFirst(t *testing.T) {
	for _, often := range []int{1, 2, 3, 16, 100} {
		c := again.New(6)
		for range often {
			pass(t, often, c, true, 0, 6)
		}
		useUp(t, c, 6, 6)
	}
}

// P11.1: a Pass where there is nothing to wait for, behind any try, changes
// nothing: the next wait is as long as without it.
func TestPassWithoutWait(t *testing.T) {
	for _, often := range []int{1, 2, 17, 100} {
		for tries := 1; tries <= 20; tries++ {
			c := again.New(tries)
			for i, wait := range waits[:tries] {
				try(t, i, c, true, wait, tries-1-i)
				passAll(t, i, c, wait, tries-1-i)
				for range often {
					pass(t, i, c, true, 0, tries-1-i)
				}
			}
			try(t, tries, c, false, 0, 0)
		}
	}
}

// P11.1: the Pass behind which it has to wait no more, and the one ahead of it.
func TestLastPass(t *testing.T) {
	for i, wait := range waits {
		c := again.New(20)
		useUp(t, c, 20, i+1)
		for range wait - 2 {
			c.Pass()
		}
		if wait > 1 {
			pass(t, "ahead of the last", c, false, 1, 19-i)
			try(t, "ahead of the last", c, false, 1, 19-i)
		}
		pass(t, "the last", c, true, 0, 19-i)
		if i < 19 {
			try(t, "behind the last", c, true, waits[i+1], 18-i)
		}
	}
}

// P11.1: behind the last try none is left, while its wait lasts and behind it.
func TestBehindLastTry(t *testing.T) {
	for _, tries := range []int{1, 2, 3, 4, 5, 6, 19, 20} {
		c := again.New(tries)
		useUp(t, c, tries, tries)
		for k := waits[tries-1]; k > 0; k-- {
			try(t, tries, c, false, k, 0)
			try(t, tries, c, false, k, 0)
			pass(t, tries, c, k == 1, k-1, 0)
		}
		for range 50 {
			try(t, tries, c, false, 0, 0)
			pass(t, tries, c, true, 0, 0)
		}
	}
}

// P11.1: a count of one try, written out.
func TestOneTry(t *testing.T) {
	c := again.New(1)
	see(t, "new", c, 0, 1)
	try(t, "the one", c, true, 1, 0)
	try(t, "while it waits", c, false, 1, 0)
	pass(t, "its wait", c, true, 0, 0)
	try(t, "behind it", c, false, 0, 0)
	pass(t, "nothing to wait for", c, true, 0, 0)
	try(t, "at last", c, false, 0, 0)
}

// P11.2: one who tries ahead of each Pass has his last try behind just so many
// Passes, by the number of tries, and no other one, however many follow.
func TestEnds(t *testing.T) {
	passes := []int{0, 1, 3, 7, 15, 31, 47, 63, 79, 95, 111, 127, 143, 159, 175, 191, 207, 223, 239, 255}
	for i, want := range passes {
		tries := i + 1
		c := again.New(tries)
		tried, last := 0, -1
		for n := range 2000 {
			if c.Try() {
				tried, last = tried+1, n
			}
			if (c.Left() == 0) != (n >= want) {
				t.Fatalf("%d tries: %d left behind %d Passes", tries, c.Left(), n)
			}
			c.Pass()
		}
		if tried != tries || last != want {
			t.Errorf("%d tries: %d, the last behind %d Passes; want it behind %d", tries, tried, last, want)
		}
	}
}

// P11.2: whoever tries whenever, there are never more tries than so many, and
// Left never comes to more than it was.
func TestEndsAnyhow(t *testing.T) {
	for tries := 1; tries <= 20; tries++ {
		for gap := 1; gap <= 40; gap++ {
			c := again.New(tries)
			tried, left := 0, c.Left()
			for n := range 40 * gap {
				c.Pass()
				if n%gap == 0 && c.Try() {
					tried++
				}
				if c.Left() > left || c.Left()+tried != tries {
					t.Fatalf("%d tries, gap %d: %d left behind %d tries", tries, gap, c.Left(), tried)
				}
				left = c.Left()
			}
			if gap >= 16 && tried != tries {
				t.Fatalf("%d tries, gap %d: %d", tries, gap, tried)
			}
		}
	}
}

// P11.1: every run of up to 14 calls, held against what was done in it.
func TestRuns(t *testing.T) {
	const calls = 14
	for tries := 1; tries <= 6; tries++ {
		for run := range 1 << calls {
			c, p := again.New(tries), plain{tries: tries}
			for i := range calls {
				step(t, fmt.Sprintf("%d tries, run %b, call %d", tries, run, i), c, &p, run>>i&1 == 1)
			}
		}
	}
}

// step makes one call, Try or Pass, on a count and on a plain one.
func step(t *testing.T, what string, c *again.Count, p *plain, tries bool) {
	t.Helper()
	if tries {
		want := p.try()
		try(t, what, c, want, p.wait(), p.left())
		return
	}
	want := p.pass()
	pass(t, what, c, want, p.wait(), p.left())
}

// P11.1: long runs of calls without an order, more of the one or of the other.
func TestLongRuns(t *testing.T) {
	for seed := range 60 {
		tries, share := seed%20+1, seed%7+1
		c, p := again.New(tries), plain{tries: tries}
		next := seed
		for i := range 2500 {
			next = (next*1103515245 + 12345) % (1 << 31)
			step(t, fmt.Sprintf("seed %d, call %d", seed, i), c, &p, next>>12%8 < share)
		}
	}
}

// R2: counts keep to themselves.
func TestApart(t *testing.T) {
	a, b := again.New(3), again.New(20)
	try(t, "one", a, true, 1, 2)
	see(t, "the other", b, 0, 20)
	pass(t, "the other", b, true, 0, 20)
	see(t, "one", a, 1, 2)
	useUp(t, b, 20, 6)
	try(t, "one", a, false, 1, 2)
	see(t, "the other", b, 16, 14)
	pass(t, "one", a, true, 0, 2)
	see(t, "the other", b, 16, 14)
	try(t, "one", a, true, 2, 1)
	pass(t, "the other", b, false, 15, 14)
	see(t, "one", a, 2, 1)
	passAll(t, "one", a, 2, 1)
	try(t, "one", a, true, 4, 0)
	see(t, "the other", b, 15, 14)
	third := again.New(3)
	see(t, "a third one", third, 0, 3)
	try(t, "a third one", third, true, 1, 2)
	see(t, "one", a, 4, 0)
}

// R6: asking changes nothing, wherever a count stands.
func TestAsking(t *testing.T) {
	c := again.New(7)
	for i, wait := range waits[:7] {
		for range 20 {
			see(t, i, c, 0, 7-i)
		}
		try(t, i, c, true, wait, 6-i)
		for k := wait; k > 0; k-- {
			for range 20 {
				see(t, i, c, k, 6-i)
			}
			c.Pass()
		}
	}
}

// P11.1: a nil count tells zero values, at every call and in any order.
func TestNil(t *testing.T) {
	var none *again.Count
	for range 3 {
		see(t, "nil", none, 0, 0)
		try(t, "nil", none, false, 0, 0)
		try(t, "nil", none, false, 0, 0)
		pass(t, "nil", none, false, 0, 0)
		pass(t, "nil", none, false, 0, 0)
	}
}

// R3: a count that New did not make is one of which no try is left; no call on
// it panics.
func TestZeroCount(t *testing.T) {
	var c again.Count
	for range 3 {
		see(t, "zero", &c, 0, 0)
		try(t, "zero", &c, false, 0, 0)
		pass(t, "zero", &c, true, 0, 0)
	}
}
