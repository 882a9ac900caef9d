package vote_test

import (
	"math"
	"regexp"
	"slices"
	"testing"

	"wharfinger/api"
	"wharfinger/vote"
)

const (
	none     = api.VNone
	prepared = api.VPrepared
	yes      = api.VCommitted
	no       = api.VAborted
	forcedY  = api.VForcedYes
	forcedN  = api.VForcedNo
)

// states are all that may be.
var states = []int{none, prepared, yes, no, forcedY, forcedN}

// noStates may not be; some of them end in the bits of one that may.
var noStates = []int{-1, -2, -3, -4, -5, -6, 6, 7, 8, 9, 17, 255, 256, 257, 259, 1<<31 + 3, 1 << 32, 1<<32 + 1, 1<<32 + 5, -1 << 32, -1<<32 + 2, 1 << 62, math.MinInt, math.MinInt + 1, math.MaxInt - 1, math.MaxInt}

// kinds are those that the chapter names.
var kinds = []int{api.MPrepare, api.MCommit, api.MCommits, api.MAbort, api.MAborts, api.MAsk}

// noKinds are not here: those of messages to or from others, and those that
// are none.
var noKinds = []int{
	api.MDo, api.MDone, api.MFail, api.MUndo, api.MUndone, api.MYes, api.MNo, api.MAck,
	api.MShip, api.MShipped, api.MDamage, api.MDamaged,
	0, -1, -6, -9, -10, -12, -13, -14, 19, 20, 255, 256 + 6, 256 + 9, 1<<32 + 6, 1<<32 + 9, 1<<32 + 10, 1<<32 + 12, 1 << 62, math.MinInt, math.MinInt + 6, math.MaxInt,
}

var cans = []bool{false, true}

// behind is a state, and the kind of an answer.
type behind struct{ state, kind int }

// next is Next as one value.
func next(state, kind int, can bool) behind {
	s, k := vote.Next(state, kind, can)
	return behind{s, k}
}

// answers are, by kind, what the chapter asks of each of the states; of
// MPrepare, what it asks where it can.
func answers() map[int][6]behind {
	commit := [6]behind{{none, 0}, {yes, api.MAck}, {yes, api.MAck}, {no, 0}, {forcedY, api.MAck}, {forcedN, api.MDamage}}
	abort := [6]behind{{no, api.MAck}, {no, api.MAck}, {yes, 0}, {no, api.MAck}, {forcedY, api.MDamage}, {forcedN, api.MAck}}
	return map[int][6]behind{
		api.MPrepare: {{prepared, api.MYes}, {prepared, api.MYes}, {yes, 0}, {no, api.MNo}, {forcedY, api.MYes}, {forcedN, api.MNo}},
		api.MCommit:  commit,
		api.MCommits: commit,
		api.MAbort:   abort,
		api.MAborts:  abort,
		api.MAsk:     {{no, api.MAborts}, {prepared, 0}, {yes, api.MCommits}, {no, api.MAborts}, {forcedY, 0}, {forcedN, 0}},
	}
}

// wanted is what the chapter asks of Next, for a state and a kind that are.
func wanted(state, kind int, can bool) behind {
	if state == none && kind == api.MPrepare && !can {
		return behind{no, api.MNo}
	}
	return answers()[kind][state]
}

// P12.1: each state: whether it may be, is final, how it is decided, its name.
func TestStates(t *testing.T) {
	for state, want := range []struct {
		final, yes, decided bool
		name                string
	}{
		none:     {false, false, false, "none"},
		prepared: {false, false, false, "ready"},
		yes:      {true, true, true, "yes"},
		no:       {true, false, true, "no"},
		forcedY:  {true, true, true, "forced yes"},
		forcedN:  {true, false, true, "forced no"},
	} {
		if !vote.May(state) {
			t.Errorf("May(%d) is false", state)
		}
		if vote.Final(state) != want.final {
			t.Errorf("Final(%d) = %t", state, !want.final)
		}
		if got, decided := vote.Decided(state); got != want.yes || decided != want.decided {
			t.Errorf("Decided(%d) = %t, %t; want %t, %t", state, got, decided, want.yes, want.decided)
		}
		if got := vote.Name(state); got != want.name {
			t.Errorf("Name(%d) = %q; want %q", state, got, want.name)
		}
	}
}

// P12.1: of a state that may not be nothing is told.
func TestNoStates(t *testing.T) {
	for _, state := range noStates {
		if vote.May(state) || vote.Final(state) || vote.Name(state) != "" {
			t.Errorf("%d: May %t, Final %t, Name %q", state, vote.May(state), vote.Final(state), vote.Name(state))
		}
		if got, decided := vote.Decided(state); got || decided {
			t.Errorf("Decided(%d) = %t, %t; want false, false", state, got, decided)
		}
	}
}

// P12.1: of some thousand numbers just six may be, each with another name.
func TestJustSix(t *testing.T) {
	names := map[string]int{}
	for state := -5000; state <= 5000; state++ {
		may := state >= 0 && state <= 5
		if vote.May(state) != may || (vote.Name(state) != "") != may {
			t.Errorf("%d: May %t, Name %q", state, vote.May(state), vote.Name(state))
		}
		if may {
			names[vote.Name(state)]++
		}
	}
	if len(names) != 6 {
		t.Errorf("names %v; want six", names)
	}
}

// P12.2: the example of the chapter.
func TestExample(t *testing.T) {
	for _, can := range cans {
		if got := next(none, api.MAsk, can); got != (behind{no, api.MAborts}) {
			t.Errorf("Next(VNone, MAsk, %t) = %v", can, got)
		}
	}
}

// P12.2: each state under each kind that the chapter names, with can and
// without it: the state behind it, and the answer.
func TestNext(t *testing.T) {
	for _, kind := range kinds {
		for _, state := range states {
			for _, can := range cans {
				if got, want := next(state, kind, can), wanted(state, kind, can); got != want {
					t.Errorf("Next(%d, %d, %t) = %v; want %v", state, kind, can, got, want)
				}
			}
		}
	}
}

// P12.2: whether it can counts nowhere but at the first MPrepare.
func TestCan(t *testing.T) {
	for _, state := range append(slices.Clone(states), noStates...) {
		for _, kind := range append(slices.Clone(kinds), noKinds...) {
			differ := next(state, kind, true) != next(state, kind, false)
			if differ != (state == none && kind == api.MPrepare) {
				t.Errorf("%d, %d: can and can't differ: %t", state, kind, differ)
			}
		}
	}
}

// P12.2: a kind that is not here: the state as it is, and no answer.
func TestNoKinds(t *testing.T) {
	for _, kind := range noKinds {
		for _, state := range append(slices.Clone(states), noStates...) {
			for _, can := range cans {
				if got := next(state, kind, can); got != (behind{state, 0}) {
					t.Errorf("Next(%d, %d, %t) = %v; want the state, 0", state, kind, can, got)
				}
			}
		}
	}
}

// P12.2: of some thousand numbers just six are kinds that make something of a
// state or answer it.
func TestJustSixKinds(t *testing.T) {
	for kind := -3000; kind <= 3000; kind++ {
		moved := false
		for _, state := range states {
			moved = moved || next(state, kind, true) != behind{state, 0}
		}
		if moved != slices.Contains(kinds, kind) {
			t.Errorf("kind %d: something comes of it: %t", kind, moved)
		}
	}
}

// P12.2: a state that may not be stays as it is, without an answer, whatever
// comes.
func TestNextOfNoState(t *testing.T) {
	for _, state := range noStates {
		for _, kind := range kinds {
			for _, can := range cans {
				if got := next(state, kind, can); got != (behind{state, 0}) {
					t.Errorf("Next(%d, %d, %t) = %v; want the state, 0", state, kind, can, got)
				}
			}
		}
	}
}

// P12.2: the same message once more, and once more with the other can: the
// state stays, and the answer is the one that was told, if there was one.
func TestOnceMore(t *testing.T) {
	for _, state := range states {
		for _, kind := range kinds {
			for _, can := range cans {
				first := next(state, kind, can)
				for _, again := range []bool{can, !can, !can, can} {
					if got := next(first.state, kind, again); got != first {
						t.Errorf("%d, %d, %t: %v; once more with %t: %v", state, kind, can, first, again, got)
					}
				}
			}
		}
	}
}

// P12.2: what was said of the first MPrepare is said of each next one, whether
// it can by then or can't any more.
func TestPrepareOnceMore(t *testing.T) {
	for _, can := range cans {
		want := behind{no, api.MNo}
		if can {
			want = behind{prepared, api.MYes}
		}
		state := none
		for i, now := range []bool{can, !can, can, !can, !can} {
			got := next(state, api.MPrepare, now)
			if got != want {
				t.Errorf("can %t, MPrepare %d: %v; want %v", can, i, got, want)
			}
			state = got.state
		}
	}
}

// P12.2: a decision is taken alike, whether the chief orders it or another one
// tells it, in every state; the two decisions are not alike in any.
func TestSideBySide(t *testing.T) {
	for _, state := range states {
		for _, can := range cans {
			commit, commits := next(state, api.MCommit, can), next(state, api.MCommits, can)
			abort, aborts := next(state, api.MAbort, can), next(state, api.MAborts, can)
			if commit != commits || abort != aborts {
				t.Errorf("%d: commit %v, told %v; abort %v, told %v", state, commit, commits, abort, aborts)
			}
			if commit == abort {
				t.Errorf("%d: both decisions make %v", state, commit)
			}
		}
	}
}

// P12.2: the other decision behind a decision: nothing comes of it, but for
// one who was forced: he tells damage.
func TestOtherDecision(t *testing.T) {
	for _, x := range []struct {
		state  int
		kinds  []int // of the other decision
		answer int
	}{
		{yes, []int{api.MAbort, api.MAborts}, 0},
		{no, []int{api.MCommit, api.MCommits}, 0},
		{forcedY, []int{api.MAbort, api.MAborts}, api.MDamage},
		{forcedN, []int{api.MCommit, api.MCommits}, api.MDamage},
	} {
		for _, kind := range x.kinds {
			for _, can := range cans {
				for range 3 {
					if got := next(x.state, kind, can); got != (behind{x.state, x.answer}) {
						t.Errorf("Next(%d, %d, %t) = %v; want the state, %d", x.state, kind, can, got, x.answer)
					}
				}
			}
		}
	}
}

// P12.2: ways written out, message by message.
func TestWritten(t *testing.T) {
	type told struct {
		kind int
		can  bool
		want behind
	}
	for name, way := range map[string][]told{
		"committed": {
			{api.MPrepare, true, behind{prepared, api.MYes}},
			{api.MAsk, false, behind{prepared, 0}},
			{api.MPrepare, false, behind{prepared, api.MYes}},
			{api.MCommit, false, behind{yes, api.MAck}},
			{api.MPrepare, true, behind{yes, 0}},
			{api.MAbort, true, behind{yes, 0}},
			{api.MCommits, true, behind{yes, api.MAck}},
			{api.MAsk, true, behind{yes, api.MCommits}},
		},
		"aborted": {
			{api.MPrepare, true, behind{prepared, api.MYes}},
			{api.MAborts, true, behind{no, api.MAck}},
			{api.MPrepare, true, behind{no, api.MNo}},
			{api.MCommit, true, behind{no, 0}},
			{api.MAbort, true, behind{no, api.MAck}},
			{api.MAsk, true, behind{no, api.MAborts}},
		},
		"could not": {
			{api.MPrepare, false, behind{no, api.MNo}},
			{api.MPrepare, true, behind{no, api.MNo}},
			{api.MAborts, true, behind{no, api.MAck}},
		},
		"never asked": {
			{api.MCommit, true, behind{none, 0}},
			{api.MCommits, true, behind{none, 0}},
			{api.MAsk, true, behind{no, api.MAborts}},
			{api.MPrepare, true, behind{no, api.MNo}},
		},
		"aborted ahead of it": {
			{api.MAbort, true, behind{no, api.MAck}},
			{api.MPrepare, true, behind{no, api.MNo}},
		},
	} {
		state := none
		for i, m := range way {
			got := next(state, m.kind, m.can)
			if got != m.want {
				t.Fatalf("%s, message %d: %v; want %v", name, i, got, m.want)
			}
			state = got.state
		}
	}
}

// message is the kind of one, and whether it can when it comes.
type message struct {
	kind int
	can  bool
}

// messages are those of all kinds that are here, with can and without it, and
// one that is not here.
func messages() []message {
	all := []message{{api.MYes, true}}
	for _, kind := range kinds {
		all = append(all, message{kind, false}, message{kind, true})
	}
	return all
}

// walk goes on from the last state of a way by all rows of so many messages,
// and holds each against what the chapter says of the whole.
func walk(t *testing.T, way []int, left int) {
	if got := vote.Legal(way); got != len(way) {
		t.Fatalf("Next went by %v, of which Legal lets %d through", way, got)
	}
	if left == 0 {
		return
	}
	state := way[len(way)-1]
	for _, m := range messages() {
		to, _ := vote.Next(state, m.kind, m.can)
		if vote.Final(state) && to != state {
			t.Fatalf("%v: what is final goes to %d by %d", way, to, m.kind)
		}
		if !vote.May(to) {
			t.Fatalf("%v: it goes to %d by %d", way, to, m.kind)
		}
		walk(t, append(slices.Clone(way), to), left-1)
	}
}

// P12.4: all rows of messages from VNone on, and from each way to a forced
// state: what is final stays, and Legal lets the whole way through.
func TestWays(t *testing.T) {
	walk(t, []int{none}, 5)
	walk(t, []int{none, prepared}, 4)
	walk(t, []int{none, prepared, forcedY}, 4)
	walk(t, []int{none, prepared, forcedN}, 4)
}

// P12.4: what is final stays, and so is decided as it was, whatever kind comes.
func TestFinalStays(t *testing.T) {
	for _, state := range states {
		for kind := -30; kind <= 30; kind++ {
			for _, can := range cans {
				to, _ := vote.Next(state, kind, can)
				if vote.Final(state) && to != state {
					t.Errorf("final %d goes to %d by %d, %t", state, to, kind, can)
				}
			}
		}
	}
}

// P12.4: each step that Next makes is one that Legal lets through.
func TestNextGoesByLegal(t *testing.T) {
	to := map[int][]int{none: {none}, prepared: {none, prepared}, yes: {none, prepared, yes}, no: {none, no}, forcedY: {none, prepared, forcedY}, forcedN: {none, prepared, forcedN}}
	for _, state := range states {
		for kind := -30; kind <= 30; kind++ {
			for _, can := range cans {
				s, _ := vote.Next(state, kind, can)
				way := append(slices.Clone(to[state]), s)
				if got := vote.Legal(way); got != len(way) {
					t.Errorf("Next(%d, %d, %t) goes to %d: Legal(%v) = %d", state, kind, can, s, way, got)
				}
			}
		}
	}
}

// P12.4: nobody is committed who was not ready ahead of it, and nobody comes
// to be forced by a message.
func TestNeverByItself(t *testing.T) {
	for _, state := range states {
		for kind := -30; kind <= 30; kind++ {
			for _, can := range cans {
				s, _ := vote.Next(state, kind, can)
				if s != state && (s == forcedY || s == forcedN || s == yes && state != prepared) {
					t.Errorf("Next(%d, %d, %t) goes to %d", state, kind, can, s)
				}
			}
		}
	}
}

// P12.3: rows, written out.
func TestLegal(t *testing.T) {
	for _, x := range []struct {
		l    []int
		want int
	}{
		{nil, 0},
		{[]int{}, 0},
		{[]int{none}, 1},
		{[]int{none, none, none, none}, 4},
		{[]int{none, prepared, prepared, prepared}, 4},
		{[]int{none, prepared, yes, yes, yes}, 5},
		{[]int{none, no, no, no}, 4},
		{[]int{none, prepared, no, no}, 4},
		{[]int{none, prepared, forcedY, forcedY}, 4},
		{[]int{none, prepared, forcedN, forcedN}, 4},
		{[]int{none, none, prepared, prepared, yes, yes}, 6},
		// It stops at the first.
		{[]int{prepared}, 0},
		{[]int{no, no}, 0},
		{[]int{prepared, none}, 0},
		{[]int{yes, none, prepared, yes}, 0},
		{[]int{forcedN, none}, 0},
		// In its midst.
		{[]int{none, yes, yes}, 1},
		{[]int{none, none, forcedY, none}, 2},
		{[]int{none, prepared, none, prepared, yes}, 2},
		{[]int{none, prepared, yes, no, no}, 3},
		{[]int{none, no, prepared, yes}, 2},
		{[]int{none, prepared, forcedY, yes, yes}, 3},
		{[]int{none, prepared, forcedN, no, no}, 3},
		// At its last one.
		{[]int{none, forcedN}, 1},
		{[]int{none, prepared, yes, forcedY}, 3},
		{[]int{none, prepared, no, forcedN}, 3},
		{[]int{none, no, yes}, 2},
		{[]int{none, no, none}, 2},
		{[]int{none, none, prepared, prepared, forcedN, forcedN, forcedY}, 6},
	} {
		if got := vote.Legal(x.l); got != x.want {
			t.Errorf("Legal(%v) = %d; want %d", x.l, got, x.want)
		}
	}
}

// P12.3: each state alone: VNone may be the first one, no other.
func TestLegalFirst(t *testing.T) {
	for _, state := range append(slices.Clone(states), noStates...) {
		want := 0
		if state == none {
			want = 1
		}
		if got := vote.Legal([]int{state}); got != want {
			t.Errorf("Legal(%d) = %d; want %d", state, got, want)
		}
	}
}

// P12.3: each pair of states, one behind the other, behind the ways that come
// to the first of them.
func TestLegalPairs(t *testing.T) {
	ways := [6][][]int{
		none:     {{none}, {none, none}},
		prepared: {{none, prepared}, {none, none, prepared, prepared}},
		yes:      {{none, prepared, yes}, {none, prepared, yes, yes}},
		no:       {{none, no}, {none, prepared, no}, {none, no, no}},
		forcedY:  {{none, prepared, forcedY}},
		forcedN:  {{none, prepared, forcedN}},
	}
	let := [6][6]bool{
		none:     {none: true, prepared: true, no: true},
		prepared: {prepared: true, yes: true, no: true, forcedY: true, forcedN: true},
		yes:      {yes: true},
		no:       {no: true},
		forcedY:  {forcedY: true},
		forcedN:  {forcedN: true},
	}
	for from, all := range ways {
		for _, way := range all {
			for to, ok := range let[from] {
				row := append(slices.Clone(way), to)
				want := len(way)
				if ok {
					want++
				}
				if got := vote.Legal(row); got != want {
					t.Errorf("Legal(%v) = %d; want %d", row, got, want)
				}
			}
		}
	}
}

// P12.3: a state that may not be stops a row, wherever it stands, and a row of
// it is none.
func TestLegalNoState(t *testing.T) {
	whole := []int{none, none, prepared, prepared, no, no}
	for _, wrong := range noStates {
		for place := range whole {
			row := slices.Clone(whole)
			row[place] = wrong
			if got := vote.Legal(row); got != place {
				t.Errorf("Legal(%v) = %d; want %d", row, got, place)
			}
			if got := vote.Legal(slices.Insert(slices.Clone(whole), place, wrong, wrong)); got != place {
				t.Errorf("Legal(%v) with %d twice at %d = %d", whole, wrong, place, got)
			}
		}
		if got := vote.Legal([]int{wrong, wrong, wrong}); got != 0 {
			t.Errorf("Legal of %d alone = %d", wrong, got)
		}
	}
}

// legal is what the chapter says of a row, a letter a state, in a form that has
// nothing of the program in it.
var legal = func() *regexp.Regexp {
	r := regexp.MustCompile(`\A(n+(a*|p+(c*|a*|y*|z*)))?`)
	r.Longest()
	return r
}()

// P12.3: all rows of up to six, of all states and of one on each side of them.
func TestLegalRows(t *testing.T) {
	const letters = "-npcayz+"
	for length := range 7 {
		for number := range 1 << (3 * length) {
			row, text := make([]int, length), make([]byte, length)
			for i := range row {
				digit := number >> (3 * i) & 7
				row[i], text[i] = digit-1, letters[digit]
			}
			if got, want := vote.Legal(row), len(legal.Find(text)); got != want {
				t.Fatalf("Legal(%v) = %d; want %d", row, got, want)
			}
		}
	}
}

// P12.3: a long row is gone through to its end, or to where it stops.
func TestLegalLong(t *testing.T) {
	const third = 100000
	row := slices.Concat(slices.Repeat([]int{none}, third), slices.Repeat([]int{prepared}, third), slices.Repeat([]int{yes}, third))
	if got := vote.Legal(row); got != 3*third {
		t.Errorf("Legal = %d; want %d", got, 3*third)
	}
	for _, place := range []int{third + 1, 2*third - 1, 2 * third, 2*third + 1, 3*third - 1} {
		wrong := slices.Clone(row)
		wrong[place] = none
		if got := vote.Legal(wrong); got != place {
			t.Errorf("Legal with VNone at %d = %d; want %d", place, got, place)
		}
	}
}

// R2: a row handed to Legal stays as it was, and what lies behind its length is
// neither read nor written.
func TestLegalLeavesRow(t *testing.T) {
	for _, room := range [][]int{
		{none, prepared, yes, yes, yes, yes},
		{none, prepared, none, 9, -9, 77},
		{none, no, no, prepared, yes, none},
		{prepared, none, none, none, none, none},
		{none, 9, 9, 9, 9, 9},
	} {
		was := slices.Clone(room)
		for length := range len(room) + 1 {
			got := vote.Legal(room[:length])
			if !slices.Equal(room, was) {
				t.Fatalf("Legal made %v of %v", room, was)
			}
			if alone := vote.Legal(slices.Clip(slices.Clone(was[:length]))); got != alone {
				t.Errorf("Legal(%v) = %d, with %v behind it; %d without", was[:length], got, was[length:], alone)
			}
		}
	}
}

// R6: what was asked ahead makes no difference.
func TestAskedAgain(t *testing.T) {
	for range 3 {
		for _, state := range states {
			for _, kind := range kinds {
				if got := next(state, kind, true); got != wanted(state, kind, true) {
					t.Errorf("Next(%d, %d, true) = %v", state, kind, got)
				}
			}
		}
		if got := vote.Legal([]int{none, prepared, yes, no}); got != 3 {
			t.Errorf("Legal = %d; want 3", got)
		}
	}
}
