package peers_test

import (
	"math"
	"slices"
	"testing"

	"wharfinger/api"
	"wharfinger/peers"
	"wharfinger/vote"
)

const (
	none    = api.VNone
	waits   = api.VPrepared
	yes     = api.VCommitted
	no      = api.VAborted
	forcedY = api.VForcedYes
	forcedN = api.VForcedNo
)

// states are all that may be; silent are those that tell nothing.
var (
	states = []int{none, waits, yes, no, forcedY, forcedN}
	silent = []int{waits, forcedY, forcedN}
)

// noStates may not be; some of them end in the bits of one that may.
var noStates = []int{-1, -2, -3, -4, -5, -6, 6, 7, 8, 9, 13, 14, 255, 256, 258, 259, 1<<31 + 3, 1 << 32, 1<<32 + 2, 1<<32 + 3, -1 << 32, -1<<32 + 2, 1 << 62, math.MinInt, math.MinInt + 2, math.MaxInt - 1, math.MaxInt}

// count tells how many of l stand in a state.
func count(l []int, state int) int {
	n := 0
	for _, one := range l {
		if one == state {
			n++
		}
	}
	return n
}

// place tells where a state stands first in l; behind its end, if nowhere.
func place(l []int, state int) int {
	if i := slices.Index(l, state); i >= 0 {
		return i
	}
	return len(l)
}

// wantDecide is what the chapter asks of Decide, by where the first ones stand.
func wantDecide(l []int) int {
	commits, aborts := place(l, yes), min(place(l, no), place(l, none))
	switch {
	case commits < aborts:
		return api.MCommits
	case aborts < commits:
		return api.MAborts
	}
	return 0
}

// wantSafe is what the chapter asks of Safe, by how many there are of each.
func wantSafe(l []int) bool {
	may := 0
	for _, state := range states {
		may += count(l, state)
	}
	against := count(l, no) + count(l, none)
	return may == len(l) && count(l, yes)*against == 0
}

// hold holds Decide and Safe of a row against the chapter.
func hold(t *testing.T, l []int) {
	t.Helper()
	if got, want := peers.Decide(l), wantDecide(l); got != want {
		t.Errorf("Decide(%v) = %d; want %d", short(l), got, want)
	}
	if got, want := peers.Safe(l), wantSafe(l); got != want {
		t.Errorf("Safe(%v) = %t; want %t", short(l), got, want)
	}
}

// short is as much of a row as can be read.
func short(l []int) []int { return l[:min(len(l), 20)] }

// rows goes through all rows of up to so many of what is given.
func rows(of []int, most int, do func(l []int)) {
	var from func(l []int)
	from = func(l []int) {
		do(l)
		if len(l) == most {
			return
		}
		for _, state := range of {
			from(append(slices.Clone(l), state))
		}
	}
	from(nil)
}

// P14.1: what one in each state tells.
func TestTells(t *testing.T) {
	for state, want := range []int{
		none:    api.MAborts,
		waits:   0,
		yes:     api.MCommits,
		no:      api.MAborts,
		forcedY: 0,
		forcedN: 0,
	} {
		if got := peers.Tells(state); got != want {
			t.Errorf("Tells(%d) = %d; want %d", state, got, want)
		}
	}
}

// P14.1: what Tells tells is what such a one answers to MAsk.
func TestTellsAsItIsAnswered(t *testing.T) {
	for _, state := range append(slices.Clone(states), noStates...) {
		if _, kind := vote.Next(state, api.MAsk, true); kind != peers.Tells(state) {
			t.Errorf("Tells(%d) = %d; MAsk is answered by %d", state, peers.Tells(state), kind)
		}
	}
}

// P14.1, P14.2: a number that is no state tells nothing, decides nothing, and
// is not safe, alone, ahead of others and behind them.
func TestNoStates(t *testing.T) {
	rest := [][]int{nil, {waits}, {yes}, {no}, {none}, {forcedY, yes}, {forcedN, no}, {waits, waits, yes, yes}, {none, no, waits}}
	for _, wrong := range noStates {
		if got := peers.Tells(wrong); got != 0 {
			t.Errorf("Tells(%d) = %d; want 0", wrong, got)
		}
		for _, l := range rest {
			want := peers.Decide(l)
			for at := range len(l) + 1 {
				row := slices.Insert(slices.Clone(l), at, wrong)
				if got := peers.Decide(row); got != want {
					t.Errorf("Decide(%v) = %d; want %d", row, got, want)
				}
				if peers.Safe(row) {
					t.Errorf("Safe(%v) is true", row)
				}
				hold(t, row)
			}
		}
		if row := []int{wrong, wrong, wrong}; peers.Decide(row) != 0 || peers.Safe(row) {
			t.Errorf("%v: Decide %d, Safe %t", row, peers.Decide(row), peers.Safe(row))
		}
	}
}

// P14.1, P14.2: of some thousand numbers just three tell something, and just
// six are safe alone.
func TestJustThree(t *testing.T) {
	for state := -5000; state <= 5000; state++ {
		tells := state == none || state == yes || state == no
		if got := peers.Tells(state); (got != 0) != tells || peers.Decide([]int{state}) != got {
			t.Errorf("%d: Tells %d, Decide %d", state, got, peers.Decide([]int{state}))
		}
		if got := peers.Safe([]int{state}); got != (state >= 0 && state <= 5) {
			t.Errorf("Safe(%d) = %t", state, got)
		}
	}
}

// P14.1: the example of the chapter.
func TestExample(t *testing.T) {
	if got := peers.Decide([]int{waits, none}); got != api.MAborts {
		t.Errorf("Decide(VPrepared, VNone) = %d; want MAborts", got)
	}
}

// P14.1, P14.2: rows, written out.
func TestWritten(t *testing.T) {
	for _, x := range []struct {
		l      []int
		decide int
		safe   bool
	}{
		{nil, 0, true},
		{[]int{}, 0, true},
		// One.
		{[]int{none}, api.MAborts, true},
		{[]int{waits}, 0, true},
		{[]int{yes}, api.MCommits, true},
		{[]int{no}, api.MAborts, true},
		{[]int{forcedY}, 0, true},
		{[]int{forcedN}, 0, true},
		// All of them tell nothing.
		{[]int{waits, waits}, 0, true},
		{[]int{forcedY, forcedN}, 0, true},
		{[]int{forcedN, waits, forcedY, waits}, 0, true},
		// Beside one who is committed.
		{[]int{waits, yes}, api.MCommits, true},
		{[]int{yes, waits}, api.MCommits, true},
		{[]int{forcedN, yes}, api.MCommits, true},
		{[]int{yes, forcedN, forcedY, waits, yes}, api.MCommits, true},
		{[]int{yes, yes, yes}, api.MCommits, true},
		// Beside one who is aborted, or was never asked.
		{[]int{waits, no}, api.MAborts, true},
		{[]int{no, waits}, api.MAborts, true},
		{[]int{waits, none}, api.MAborts, true},
		{[]int{forcedY, no}, api.MAborts, true},
		{[]int{none, forcedY, forcedN, waits, none}, api.MAborts, true},
		{[]int{no, none}, api.MAborts, true},
		{[]int{none, no, no, none}, api.MAborts, true},
		// Beside both.
		{[]int{yes, no}, api.MCommits, false},
		{[]int{no, yes}, api.MAborts, false},
		{[]int{yes, none}, api.MCommits, false},
		{[]int{none, yes}, api.MAborts, false},
		{[]int{forcedY, waits, yes, forcedN, none}, api.MCommits, false},
		{[]int{forcedY, waits, no, forcedN, yes}, api.MAborts, false},
		{[]int{forcedY, yes, forcedY, no, forcedY}, api.MCommits, false},
		{[]int{no, none, yes}, api.MAborts, false},
		{[]int{yes, yes, no, no}, api.MCommits, false},
		// One that may not be.
		{[]int{-1}, 0, false},
		{[]int{6, yes}, api.MCommits, false},
		{[]int{no, math.MinInt}, api.MAborts, false},
		{[]int{math.MaxInt, waits, -1, no, yes}, api.MAborts, false},
	} {
		if got := peers.Decide(x.l); got != x.decide {
			t.Errorf("Decide(%v) = %d; want %d", x.l, got, x.decide)
		}
		if got := peers.Safe(x.l); got != x.safe {
			t.Errorf("Safe(%v) = %t; want %t", x.l, got, x.safe)
		}
	}
}

// P14.1, P14.2: all rows of up to six, of all states and of one on each side of
// them.
func TestRows(t *testing.T) {
	rows([]int{-1, none, waits, yes, no, forcedY, forcedN, 6}, 6, func(l []int) {
		if peers.Decide(l) != wantDecide(l) || peers.Safe(l) != wantSafe(l) {
			t.Fatalf("%v: Decide %d, Safe %t", l, peers.Decide(l), peers.Safe(l))
		}
	})
}

// P14.1: the first that tells is decided, whatever stands behind it, and
// however many that tell nothing stand ahead of it.
func TestFirstDecides(t *testing.T) {
	for _, first := range []int{none, yes, no} {
		want := peers.Tells(first)
		rows([]int{waits, forcedY, forcedN, 9}, 4, func(ahead []int) {
			rows(states, 2, func(behind []int) {
				row := slices.Concat(ahead, []int{first}, behind)
				if got := peers.Decide(row); got != want {
					t.Fatalf("Decide(%v) = %d; want %d", row, got, want)
				}
			})
		})
		for _, quiet := range silent {
			row := append(slices.Repeat([]int{quiet}, 100000), first, yes, no, none)
			if got := peers.Decide(row); got != want {
				t.Errorf("Decide of many %d, then %d = %d; want %d", quiet, first, got, want)
			}
		}
	}
}

// P14.2: one who is committed and one who is not, in either order, near to each
// other and far apart, whatever else stands in the row.
func TestFarApart(t *testing.T) {
	const length = 2000
	for _, against := range []int{no, none} {
		for _, rest := range silent {
			for _, at := range [][2]int{{0, 1}, {0, length - 1}, {7, 1500}, {999, 1000}, {length - 2, length - 1}} {
				row := slices.Repeat([]int{rest}, length)
				row[at[0]], row[at[1]] = yes, against
				hold(t, row)
				if peers.Safe(row) || peers.Decide(row) != api.MCommits {
					t.Errorf("%d at %d, %d at %d: Safe %t, Decide %d", yes, at[0], against, at[1], peers.Safe(row), peers.Decide(row))
				}
				row[at[0]], row[at[1]] = against, yes
				hold(t, row)
				if peers.Safe(row) || peers.Decide(row) != api.MAborts {
					t.Errorf("%d at %d, %d at %d: Safe %t, Decide %d", against, at[0], yes, at[1], peers.Safe(row), peers.Decide(row))
				}
			}
		}
	}
}

// P14.2: whoever is forced, or waits, may be beside all: where he stands makes
// no difference.
func TestForcedBesideAll(t *testing.T) {
	rows(states, 4, func(l []int) {
		decided, safe := peers.Decide(l), peers.Safe(l)
		for _, quiet := range silent {
			for at := range len(l) + 1 {
				row := slices.Insert(slices.Clone(l), at, quiet)
				if peers.Decide(row) != decided || peers.Safe(row) != safe {
					t.Fatalf("%v: Decide %d, Safe %t; without the %d at %d %d, %t", row, peers.Decide(row), peers.Safe(row), quiet, at, decided, safe)
				}
			}
		}
	})
}

// told tells of a row whether one tells MCommits, and whether one tells MAborts.
func told(l []int) (commits, aborts bool) {
	for _, state := range l {
		switch peers.Tells(state) {
		case api.MCommits:
			commits = true
		case api.MAborts:
			aborts = true
		}
	}
	return commits, aborts
}

// orders goes through all orders of a row.
func orders(l []int, do func(l []int)) {
	var from func(ahead, rest []int)
	from = func(ahead, rest []int) {
		if len(rest) == 0 {
			do(ahead)
		}
		for i := range rest {
			from(append(slices.Clone(ahead), rest[i]), slices.Delete(slices.Clone(rest), i, i+1))
		}
	}
	from(nil, l)
}

// P14.3: of what is safe none tells MCommits where another one tells MAborts;
// what is not, of states that may be, has both.
func TestNeverBoth(t *testing.T) {
	rows(states, 6, func(l []int) {
		commits, aborts := told(l)
		if safe := peers.Safe(l); safe == (commits && aborts) {
			t.Fatalf("%v: Safe %t; one tells MCommits %t, one MAborts %t", l, safe, commits, aborts)
		}
	})
}

// P14.3: of what is safe the same is decided, in whatever order they are asked;
// of what is not, of states that may be, there are orders that differ.
func TestWhateverOrder(t *testing.T) {
	rows(states, 4, func(l []int) {
		safe, decided, differ := peers.Safe(l), peers.Decide(l), false
		orders(l, func(row []int) {
			if peers.Safe(row) != safe {
				t.Fatalf("Safe(%v) = %t; Safe(%v) = %t", l, safe, row, !safe)
			}
			differ = differ || peers.Decide(row) != decided
		})
		if differ == safe {
			t.Fatalf("%v: Safe %t; some order decides otherwise: %t", l, safe, differ)
		}
	})
}

// row is one of a fixed sequence of long rows of the given states.
func row(seed uint64, length int, of []int) []int {
	l := make([]int, length)
	for i := range l {
		seed = seed*6364136223846793005 + 1442695040888963407
		l[i] = of[seed>>33%uint64(len(of))]
	}
	return l
}

// P14.3: the same of long rows.
func TestLongRows(t *testing.T) {
	for _, x := range []struct {
		of   []int
		safe bool
	}{
		{[]int{waits, forcedY, forcedN}, true},
		{[]int{waits, forcedY, forcedN, yes}, true},
		{[]int{waits, forcedY, forcedN, no, none}, true},
		{states, false},
	} {
		for seed := range uint64(20) {
			l := row(seed, 3000+int(seed), x.of)
			hold(t, l)
			commits, aborts := told(l)
			if peers.Safe(l) != x.safe || peers.Safe(l) == (commits && aborts) {
				t.Errorf("seed %d of %v: Safe %t; one tells MCommits %t, one MAborts %t", seed, x.of, peers.Safe(l), commits, aborts)
			}
			turned := slices.Clone(l)
			slices.Reverse(turned)
			if x.safe && peers.Decide(turned) != peers.Decide(l) {
				t.Errorf("seed %d of %v: Decide %d; turned round %d", seed, x.of, peers.Decide(l), peers.Decide(turned))
			}
		}
	}
}

// P14.2: a long row is gone through to its last one.
func TestToTheEnd(t *testing.T) {
	const length = 200000
	for _, most := range []int{yes, no, none, waits} {
		l := slices.Repeat([]int{most}, length)
		hold(t, l)
		if !peers.Safe(l) {
			t.Errorf("Safe of many %d is false", most)
		}
		for _, last := range []int{yes, no, none, 6, -1, math.MinInt, math.MaxInt} {
			l[length-1] = last
			hold(t, l)
		}
	}
}

// R2: a row that is handed in is as it was, and what lies behind its length is
// neither read nor written.
func TestLeavesRow(t *testing.T) {
	for _, room := range [][]int{
		{waits, none, yes, no, forcedY, forcedN},
		{waits, waits, forcedY, forcedN, no, yes},
		{yes, yes, waits, none, 9, -9},
		{9, -9, math.MinInt, yes, no, none},
	} {
		was := slices.Clone(room)
		for length := range len(room) + 1 {
			decided, safe := peers.Decide(room[:length]), peers.Safe(room[:length])
			if !slices.Equal(room, was) {
				t.Fatalf("%v was made of %v", room, was)
			}
			alone := slices.Clip(slices.Clone(was[:length]))
			if peers.Decide(alone) != decided || peers.Safe(alone) != safe {
				t.Errorf("%v: Decide %d, Safe %t, with %v behind it; without %d, %t", alone, decided, safe, was[length:], peers.Decide(alone), peers.Safe(alone))
			}
		}
	}
}

// R6: what was asked ahead makes no difference.
func TestAskedAgain(t *testing.T) {
	for range 3 {
		hold(t, []int{waits, none})
		hold(t, []int{forcedN, yes, no})
		hold(t, nil)
		hold(t, []int{yes, 6})
	}
}
