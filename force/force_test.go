package force_test

import (
	"math"
	"slices"
	"testing"

	"wharfinger/api"
	"wharfinger/force"
	"wharfinger/peers"
	"wharfinger/vote"
)

const (
	none    = api.VNone
	waits   = api.VPrepared
	yes     = api.VCommitted
	no      = api.VAborted
	forcedY = api.VForcedYes
	forcedN = api.VForcedNo
)

// states are all that may be; open are those that decided nothing.
var (
	states = []int{none, waits, yes, no, forcedY, forcedN}
	open   = []int{none, waits}
)

// noStates may not be; some of them end in the bits of one that may.
var noStates = []int{-1, -2, -3, -4, -5, -6, 6, 7, 8, 9, 255, 256, 257, 258, 259, 260, 261, 1<<31 + 4, 1 << 32, 1<<32 + 1, 1<<32 + 4, 1<<32 + 5, -1 << 32, -1<<32 + 1, -1<<32 + 5, 1 << 62, math.MinInt, math.MinInt + 1, math.MinInt + 5, math.MaxInt - 1, math.MaxInt}

var ways = []bool{false, true}

// forced is what Force tells.
type forced struct {
	state int
	e     api.Errno
}

// doForce is Force as one value.
func doForce(state int, yes bool) forced {
	to, e := force.Force(state, yes)
	return forced{to, e}
}

// other is the state of one who was forced the other way than what was decided.
func other(decided bool) int {
	if decided {
		return forcedN
	}
	return forcedY
}

// wantEven is what the chapter asks of Even, pair by pair.
func wantEven(l []int) bool {
	for i, one := range l {
		for _, two := range l[i+1:] {
			if otherwise(one, two) {
				return false
			}
		}
	}
	return true
}

// otherwise tells whether two states are decided otherwise, written out.
func otherwise(one, two int) bool {
	switch [2]int{one, two} {
	case [2]int{yes, no}, [2]int{yes, forcedN}, [2]int{forcedY, no}, [2]int{forcedY, forcedN},
		[2]int{no, yes}, [2]int{forcedN, yes}, [2]int{no, forcedY}, [2]int{forcedN, forcedY}:
		return true
	}
	return false
}

// holdWhich holds what Which tells of a row against the chapter: the places
// rise, and a place is told just if the other way stands there.
func holdWhich(t *testing.T, l []int) {
	t.Helper()
	for _, decided := range ways {
		got, next := force.Which(l, decided), 0
		for i, state := range l {
			told := next < len(got) && got[next] == i
			if told != (state == other(decided)) {
				t.Fatalf("Which(%v, %t) = %v; place %d is told: %t", short(l), decided, short(got), i, told)
			}
			if told {
				next++
			}
		}
		if next != len(got) {
			t.Fatalf("Which(%v, %t) = %v; %d of them are places at which it is so, rising", short(l), decided, short(got), next)
		}
	}
}

// hold holds Which and Even of a row against the chapter.
func hold(t *testing.T, l []int) {
	t.Helper()
	holdWhich(t, l)
	if got, want := force.Even(l), wantEven(l); got != want {
		t.Fatalf("Even(%v) = %t; want %t", short(l), got, want)
	}
}

// short is the beginning of a row, for a message.
func short(l []int) []int {
	return l[:min(len(l), 20)]
}

// rows goes through all rows of at most so many of the given states.
func rows(of []int, most int, do func(l []int)) {
	var from func(l []int)
	from = func(l []int) {
		do(l)
		if len(l) == most {
			return
		}
		for _, state := range of {
			from(append(slices.Clone(l), state))
		}
	}
	from(nil)
}

// P15.1: every state that may be, for yes and for no.
func TestForce(t *testing.T) {
	for state, want := range []api.Errno{
		none:    api.ErrState,
		waits:   api.OK,
		yes:     api.ErrState,
		no:      api.ErrState,
		forcedY: api.ErrState,
		forcedN: api.ErrState,
	} {
		if got := doForce(state, true); got.e != want || want != api.OK && got.state != 0 {
			t.Errorf("Force(%d, true) = %v; want error %d", state, got, want)
		}
		if got := doForce(state, false); got.e != want || want != api.OK && got.state != 0 {
			t.Errorf("Force(%d, false) = %v; want error %d", state, got, want)
		}
	}
	if got := doForce(waits, true); got != (forced{forcedY, api.OK}) {
		t.Errorf("Force(VPrepared, true) = %v; want VForcedYes", got)
	}
	if got := doForce(waits, false); got != (forced{forcedN, api.OK}) {
		t.Errorf("Force(VPrepared, false) = %v; want VForcedNo", got)
	}
}

// P15.1: who was forced can't be forced once more, neither way.
func TestForceOnce(t *testing.T) {
	for _, first := range ways {
		to := doForce(waits, first).state
		for _, second := range ways {
			if got := doForce(to, second); got != (forced{0, api.ErrState}) {
				t.Errorf("forced by %t, then by %t: %v; want ErrState", first, second, got)
			}
		}
	}
}

// P15.1: what is forced is a state that one who waits may come to, decided the
// way that the operator said.
func TestForceIsLegal(t *testing.T) {
	for _, way := range ways {
		to := doForce(waits, way).state
		if n := vote.Legal([]int{none, waits, to, to}); n != 4 {
			t.Errorf("by %t: only %d of none, ready, %s are legal", way, n, vote.Name(to))
		}
		if got, decided := vote.Decided(to); got != way || !decided {
			t.Errorf("by %t: Decided(%d) = %t, %t", way, to, got, decided)
		}
	}
}

// P15.1, P15.2: numbers that are no state: Force refuses them by ErrArg, they
// are no damage, and count for nothing as the only one, the first and the last.
func TestNoStates(t *testing.T) {
	rest := [][]int{nil, {waits}, {none}, {yes}, {no}, {forcedY}, {forcedN}, {forcedY, forcedY}, {yes, forcedN}, {no, forcedY, waits}, {yes, waits, yes, forcedY}}
	for _, wrong := range noStates {
		for _, way := range ways {
			if got := doForce(wrong, way); got != (forced{0, api.ErrArg}) {
				t.Errorf("Force(%d, %t) = %v; want ErrArg", wrong, way, got)
			}
			if force.Damage(wrong, way) {
				t.Errorf("Damage(%d, %t) is true", wrong, way)
			}
			if got := force.Which([]int{wrong}, way); len(got) != 0 {
				t.Errorf("Which(%d, %t) = %v; want nothing", wrong, way, got)
			}
		}
		if !force.Even([]int{wrong}) || !force.Even([]int{wrong, wrong, wrong}) {
			t.Errorf("Even of %d alone is false", wrong)
		}
		for _, l := range rest {
			for at := range len(l) + 1 {
				row := slices.Insert(slices.Clone(l), at, wrong)
				if force.Even(row) != force.Even(l) {
					t.Errorf("Even(%v) = %t", row, force.Even(row))
				}
				hold(t, row)
			}
		}
	}
}

// P15.1, P15.2: of some thousand numbers just one can be forced, just five more
// are states, and just one is damage each way.
func TestJustOne(t *testing.T) {
	for state := -5000; state <= 5000; state++ {
		for _, way := range ways {
			want := api.ErrArg
			if slices.Contains(states, state) {
				want = api.ErrState
			}
			if state == waits {
				want = api.OK
			}
			if got := doForce(state, way); got.e != want {
				t.Errorf("Force(%d, %t) = %v; want error %d", state, way, got, want)
			}
			if got := force.Damage(state, way); got != (state == other(way)) {
				t.Errorf("Damage(%d, %t) = %t", state, way, got)
			}
		}
	}
}

// P15.2: every state, for yes and for no.
func TestDamage(t *testing.T) {
	for state, want := range []struct{ yes, no bool }{
		none:    {false, false},
		waits:   {false, false},
		yes:     {false, false},
		no:      {false, false},
		forcedY: {false, true},
		forcedN: {true, false},
	} {
		if got := force.Damage(state, true); got != want.yes {
			t.Errorf("Damage(%d, true) = %t", state, got)
		}
		if got := force.Damage(state, false); got != want.no {
			t.Errorf("Damage(%d, false) = %t", state, got)
		}
	}
}

// P15.2: there is damage just where one who is told the decision answers so.
func TestDamageAsItIsAnswered(t *testing.T) {
	for _, state := range append(slices.Clone(states), noStates...) {
		for _, kind := range []int{api.MCommit, api.MCommits, api.MAbort, api.MAborts} {
			_, answer := vote.Next(state, kind, true)
			decided := kind == api.MCommit || kind == api.MCommits
			if got := force.Damage(state, decided); got != (answer == api.MDamage) {
				t.Errorf("Damage(%d, %t) = %t; message %d is answered by %d", state, decided, got, kind, answer)
			}
		}
	}
}

// P15.2: who waited and is forced the way that is decided is no damage, the
// other way he is.
func TestForcedOtherwise(t *testing.T) {
	for _, way := range ways {
		for _, decided := range ways {
			if got := force.Damage(doForce(waits, way).state, decided); got != (way != decided) {
				t.Errorf("forced by %t, decided %t: damage %t", way, decided, got)
			}
		}
	}
}

// P15.2: the example of the chapter.
func TestExample(t *testing.T) {
	if got := force.Which([]int{yes, forcedN}, true); !slices.Equal(got, []int{1}) {
		t.Errorf("Which(VCommitted, VForcedNo; yes) = %v; want 1", got)
	}
}

// P15.2: rows, written out.
func TestWritten(t *testing.T) {
	for _, x := range []struct {
		l       []int
		yes, no []int // the places of damage
		even    bool
	}{
		{nil, nil, nil, true},
		{[]int{}, nil, nil, true},
		// One.
		{[]int{none}, nil, nil, true},
		{[]int{waits}, nil, nil, true},
		{[]int{yes}, nil, nil, true},
		{[]int{no}, nil, nil, true},
		{[]int{forcedY}, nil, []int{0}, true},
		{[]int{forcedN}, []int{0}, nil, true},
		// One who waits or was never asked, beside all.
		{[]int{none, waits}, nil, nil, true},
		{[]int{yes, waits}, nil, nil, true},
		{[]int{none, no}, nil, nil, true},
		{[]int{forcedY, none}, nil, []int{0}, true},
		{[]int{waits, forcedN}, []int{1}, nil, true},
		// Two decided alike.
		{[]int{yes, yes}, nil, nil, true},
		{[]int{no, no}, nil, nil, true},
		{[]int{yes, forcedY}, nil, []int{1}, true},
		{[]int{forcedY, yes}, nil, []int{0}, true},
		{[]int{no, forcedN}, []int{1}, nil, true},
		{[]int{forcedN, no}, []int{0}, nil, true},
		{[]int{forcedY, forcedY}, nil, []int{0, 1}, true},
		{[]int{forcedN, forcedN}, []int{0, 1}, nil, true},
		// Two decided otherwise.
		{[]int{yes, no}, nil, nil, false},
		{[]int{no, yes}, nil, nil, false},
		{[]int{yes, forcedN}, []int{1}, nil, false},
		{[]int{forcedN, yes}, []int{0}, nil, false},
		{[]int{no, forcedY}, nil, []int{1}, false},
		{[]int{forcedY, no}, nil, []int{0}, false},
		{[]int{forcedY, forcedN}, []int{1}, []int{0}, false},
		{[]int{forcedN, forcedY}, []int{0}, []int{1}, false},
		// Several: damage nowhere, at the first and the last place alone, everywhere.
		{[]int{yes, waits, none, no, yes}, nil, nil, false},
		{[]int{forcedN, yes, waits, yes, forcedN}, []int{0, 4}, nil, false},
		{[]int{forcedN, yes, waits, yes}, []int{0}, nil, false},
		{[]int{no, waits, none, forcedY}, nil, []int{3}, false},
		{[]int{forcedY, forcedY, forcedY, forcedY}, nil, []int{0, 1, 2, 3}, true},
		{[]int{forcedY, forcedN, waits, forcedN, forcedY, forcedN}, []int{1, 3, 5}, []int{0, 4}, false},
		{[]int{waits, forcedY, none, yes, waits, forcedY}, nil, []int{1, 5}, true},
		// Some that may not be.
		{[]int{-1, 6, yes}, nil, nil, true},
		{[]int{-1, forcedN, 6}, []int{1}, nil, true},
		{[]int{no, math.MinInt, forcedY, math.MaxInt}, nil, []int{2}, false},
	} {
		if got := force.Which(x.l, true); !slices.Equal(got, x.yes) {
			t.Errorf("Which(%v, true) = %v; want %v", x.l, got, x.yes)
		}
		if got := force.Which(x.l, false); !slices.Equal(got, x.no) {
			t.Errorf("Which(%v, false) = %v; want %v", x.l, got, x.no)
		}
		if got := force.Even(x.l); got != x.even {
			t.Errorf("Even(%v) = %t; want %t", x.l, got, x.even)
		}
	}
}

// P15.2: all rows of up to five, of all states and of one on each side of them.
func TestRows(t *testing.T) {
	rows([]int{-1, none, waits, yes, no, forcedY, forcedN, 6}, 5, func(l []int) {
		hold(t, l)
	})
}

// P15.2: one who waits, or was never asked, makes no row uneven or even that
// was not, wherever he stands.
func TestOpenBesideAll(t *testing.T) {
	rows(states, 4, func(l []int) {
		even := force.Even(l)
		for _, quiet := range open {
			for at := range len(l) + 1 {
				row := slices.Insert(slices.Clone(l), at, quiet)
				if force.Even(row) != even {
					t.Fatalf("Even(%v) = %t; without the %d at %d %t", row, !even, quiet, at, even)
				}
			}
		}
	})
}

// P15.2: two decided otherwise, next to each other and far apart, in either
// order, among those that decided nothing and those that decided as one of them.
func TestFarApart(t *testing.T) {
	const length = 2000
	for _, one := range states {
		for _, two := range states {
			for _, rest := range []int{none, waits, one, two} {
				for _, at := range [][2]int{{0, 1}, {0, length - 1}, {7, 1500}, {999, 1000}, {length - 2, length - 1}} {
					row := slices.Repeat([]int{rest}, length)
					row[at[0]], row[at[1]] = one, two
					if got := force.Even(row); got == otherwise(one, two) {
						t.Errorf("%d at %d, %d at %d, %d elsewhere: Even %t", one, at[0], two, at[1], rest, got)
					}
				}
			}
		}
	}
}

// P15.2: damage at one place of a long row is told, whatever stands elsewhere.
func TestOnePlace(t *testing.T) {
	const length = 2000
	for _, decided := range ways {
		for _, rest := range append([]int{6, math.MinInt}, states...) {
			if rest == other(decided) {
				continue
			}
			for _, at := range []int{0, 1, 1000, length - 2, length - 1} {
				row := slices.Repeat([]int{rest}, length)
				row[at] = other(decided)
				if got := force.Which(row, decided); !slices.Equal(got, []int{at}) {
					t.Errorf("damage at %d, %d elsewhere: Which %v", at, rest, short(got))
				}
			}
		}
	}
}

// P15.2: a long row is gone through to its last one, and all its places can be
// told.
func TestToTheEnd(t *testing.T) {
	const length = 200000
	for _, most := range states {
		row := slices.Repeat([]int{most}, length)
		holdWhich(t, row)
		if !force.Even(row) {
			t.Errorf("Even of many %d is false", most)
		}
		for _, last := range append([]int{-1, 6, math.MinInt, math.MaxInt}, states...) {
			row[length-1] = last
			holdWhich(t, row)
			if got := force.Even(row); got == otherwise(most, last) {
				t.Errorf("Even of many %d, then %d = %t", most, last, got)
			}
		}
	}
}

// holdForced holds of a row, if it is safe, that of two that are decided
// otherwise one was forced; it tells whether there were such.
func holdForced(t *testing.T, l []int) bool {
	t.Helper()
	met := false
	for i, one := range l {
		for _, two := range l[i+1:] {
			pair := []int{one, two}
			if !peers.Safe(pair) || force.Even(pair) {
				continue
			}
			met = true
			// Who was forced is damage one way or the other.
			if len(force.Which(pair, true))+len(force.Which(pair, false)) == 0 || !anyForced(pair) {
				t.Fatalf("%v of %v: safe and not even, and nobody was forced", pair, short(l))
			}
		}
	}
	return met
}

// anyForced tells whether one of the row was forced, written out.
func anyForced(l []int) bool {
	return slices.Contains(l, forcedY) || slices.Contains(l, forcedN)
}

// P15.3: of all short rows: where two that were safe are decided otherwise one
// of them was forced; a safe row without one who was forced is even, and there
// are uneven ones with one.
func TestForcedWhereUneven(t *testing.T) {
	met := 0
	rows(states, 5, func(l []int) {
		pair := holdForced(t, l)
		if !peers.Safe(l) || force.Even(l) {
			return
		}
		met++
		if !pair || !anyForced(l) {
			t.Fatalf("%v: safe and not even; a pair of it is so %t, one was forced %t", l, pair, anyForced(l))
		}
	})
	if met == 0 {
		t.Error("no row was safe and not even")
	}
}

// P15.3: where two are safe and one is decided as he was told, not forced, they
// are uneven just if the other one is damage.
func TestDamageTellsWhose(t *testing.T) {
	for _, decided := range ways {
		told := no
		if decided {
			told = yes
		}
		for _, state := range states {
			pair := []int{told, state}
			if !peers.Safe(pair) {
				continue
			}
			if got := force.Even(pair); got == force.Damage(state, decided) {
				t.Errorf("%v: Even %t, Damage %t", pair, got, force.Damage(state, decided))
			}
		}
	}
}

// P15.3: a safe row stays safe when an operator forces one of it who waits; if
// it was even and is so no more it is he who is damage by what the others have
// decided.
func TestForceKeepsSafe(t *testing.T) {
	rows(states, 5, func(l []int) {
		if !peers.Safe(l) {
			return
		}
		even := force.Even(l)
		for at, state := range l {
			for _, way := range ways {
				to, e := force.Force(state, way)
				if e != api.OK {
					continue
				}
				row := slices.Clone(l)
				row[at] = to
				if !peers.Safe(row) {
					t.Fatalf("%v was safe; %v is not", l, row)
				}
				if even && !force.Even(row) && !slices.Contains(force.Which(row, !way), at) {
					t.Fatalf("%v was even; %v is not, and place %d is no damage", l, row, at)
				}
			}
		}
	})
}

// long is one of a fixed sequence of long rows of the given states.
func long(seed uint64, length int, of []int) []int {
	l := make([]int, length)
	for i := range l {
		seed = seed*6364136223846793005 + 1442695040888963407
		l[i] = of[seed>>33%uint64(len(of))]
	}
	return l
}

// P15.2, P15.3: the same of long rows.
func TestLongRows(t *testing.T) {
	for _, x := range []struct {
		of         []int
		safe, even bool
	}{
		{[]int{waits, yes}, true, true},
		{[]int{waits, none, no}, true, true},
		{[]int{waits, yes, forcedY}, true, true},
		{[]int{waits, none, no, forcedN}, true, true},
		{[]int{waits, yes, forcedN}, true, false},
		{[]int{waits, none, no, forcedY}, true, false},
		{[]int{waits, forcedY, forcedN}, true, false},
		{[]int{waits, yes, no}, false, false},
		{states, false, false},
	} {
		for seed := range uint64(10) {
			l := long(seed, 300+int(seed), x.of)
			hold(t, l)
			holdForced(t, l)
			safe, even := peers.Safe(l), force.Even(l)
			if safe != x.safe || even != x.even {
				t.Errorf("seed %d of %v: Safe %t, Even %t", seed, x.of, safe, even)
			}
			if safe && !even && !anyForced(l) {
				t.Errorf("seed %d of %v: safe and not even, and nobody was forced", seed, x.of)
			}
		}
	}
}

// R2: a row that is handed in is as it was, and what lies behind its length is
// neither read nor written.
func TestLeavesRow(t *testing.T) {
	for _, room := range [][]int{
		{waits, forcedY, yes, no, forcedY, forcedN},
		{forcedN, forcedN, forcedN, forcedN, yes, forcedY},
		{yes, yes, waits, none, 9, -9, no},
		{9, -9, math.MinInt, forcedY, forcedN, math.MaxInt},
	} {
		was := slices.Clone(room)
		for length := range len(room) + 1 {
			for _, decided := range ways {
				got, even := force.Which(room[:length], decided), force.Even(room[:length])
				if !slices.Equal(room, was) {
					t.Fatalf("%v was made of %v", room, was)
				}
				alone := slices.Clip(slices.Clone(was[:length]))
				if !slices.Equal(force.Which(alone, decided), got) || force.Even(alone) != even {
					t.Errorf("%v: Which %v, Even %t, with %v behind it; without %v, %t", alone, got, even, was[length:], force.Which(alone, decided), force.Even(alone))
				}
			}
		}
	}
}

// R2: what Which tells is the caller's own: it shares memory neither with the
// row nor with what was told ahead.
func TestOwnMemory(t *testing.T) {
	row := []int{forcedN, yes, forcedN, forcedY, forcedN}
	was := slices.Clone(row)
	first, second := force.Which(row, true), force.Which(row, true)
	for i := range first {
		first[i] = -7
	}
	first = append(first, -7, -7, -7)
	if !slices.Equal(row, was) {
		t.Errorf("the row is %v; it was %v", row, was)
	}
	if want := []int{0, 2, 4}; !slices.Equal(second, want) || !slices.Equal(force.Which(row, true), want) {
		t.Errorf("Which told %v, then %v; want %v", second, force.Which(row, true), want)
	}
	row[0] = yes
	if want := []int{0, 2, 4}; !slices.Equal(second, want) {
		t.Errorf("what was told became %v as the row changed", second)
	}
}

// R6: what was asked ahead makes no difference.
func TestAskedAgain(t *testing.T) {
	for range 3 {
		hold(t, []int{forcedY, forcedN})
		hold(t, nil)
		hold(t, []int{yes, 6})
		if got := doForce(waits, true); got != (forced{forcedY, api.OK}) {
			t.Errorf("Force(VPrepared, true) = %v", got)
		}
		if got := doForce(6, true); got != (forced{0, api.ErrArg}) {
			t.Errorf("Force(6, true) = %v", got)
		}
	}
}
