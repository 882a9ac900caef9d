package journal_test

import (
	"fmt"
	"math"
	"reflect"
	"slices"
	"strings"
	"testing"

	"wharfinger/api"
	"wharfinger/check"
	"wharfinger/entry"
	"wharfinger/journal"
)

// some are entries of different lengths, the shortest and the longest there
// are among them.
func some() []api.Entry {
	return []api.Entry{
		{Kind: "did", Id: 7, N: []int{2}},
		{Kind: "a"},
		{Kind: "a"},
		{Kind: "abcdefgh", Id: 999, N: []int{-1000000000, -1000000000, -1000000000, -1000000000}},
		{Kind: "undid", Id: 10, N: []int{0, -1, 1000000000}},
		{Kind: "z", Id: 1, N: []int{1, 2, 3, 4}},
	}
}

// bad are entries that may not be.
func bad() []api.Entry {
	return []api.Entry{
		{}, {Kind: "", Id: 1}, {Kind: "Did", Id: 1}, {Kind: "abcdefghi"}, {Kind: "a b"}, {Kind: "a|"},
		{Kind: "a", Id: -1}, {Kind: "a", Id: 1000}, {Kind: "a", Id: math.MinInt}, {Kind: "a", Id: math.MaxInt},
		{Kind: "a", N: []int{1000000001}}, {Kind: "a", N: []int{0, -1000000001}}, {Kind: "a", N: make([]int, 5)},
	}
}

// lineOf is the line of e, written without the program's own Line.
func lineOf(e api.Entry) string {
	s := fmt.Sprint(e.Kind, " ", e.Id)
	for _, n := range e.N {
		s += fmt.Sprint(" ", n)
	}
	return s + "|" + check.Letters(s)
}

func linesOf(list []api.Entry) []string {
	var lines []string
	for _, e := range list {
		lines = append(lines, lineOf(e))
	}
	return lines
}

func alike(a, b []api.Entry) bool {
	return slices.EqualFunc(a, b, func(x, y api.Entry) bool {
		return x.Kind == y.Kind && x.Id == y.Id && slices.Equal(x.N, y.N)
	})
}

// holdAll holds what is to be seen of j against what is wanted: its lines, the
// entries of them, how many are sure, and whether it is down.
func holdAll(t *testing.T, what any, j *journal.Journal, lines []string, list []api.Entry, sure int, down bool) {
	t.Helper()
	if got := j.Lines(); !slices.Equal(got, lines) {
		t.Errorf("%v: lines %q; want %q", what, got, lines)
	}
	if got := slices.Collect(j.All()); !alike(got, list) {
		t.Errorf("%v: entries %v; want %v", what, got, list)
	}
	if got := j.Sure(); got != sure {
		t.Errorf("%v: %d are sure; want %d", what, got, sure)
	}
	if got := j.Down(); got != down {
		t.Errorf("%v: down %v; want %v", what, got, down)
	}
}

func wantNo(t *testing.T, what any, got, want api.Errno) {
	t.Helper()
	if got != want {
		t.Errorf("%v = %d; want %d", what, got, want)
	}
}

// made is a journal with those entries, of which the first sure ones are sure.
func made(t *testing.T, room int, list []api.Entry, sure int) *journal.Journal {
	t.Helper()
	j := journal.New(room)
	for i, e := range list {
		if i == sure {
			wantNo(t, "Sync", j.Sync(), api.OK)
		}
		wantNo(t, fmt.Sprint("Add ", e), j.Add(e), api.OK)
	}
	if sure == len(list) {
		wantNo(t, "Sync", j.Sync(), api.OK)
	}
	holdAll(t, "made", j, linesOf(list), list, sure, false)
	return j
}

// P4.1: entries that are added stand last, in order, and are not sure till
// Sync.
func TestAddAndSync(t *testing.T) {
	list := some()
	for sure := range len(list) + 1 {
		made(t, api.MaxRoom, list, sure)
		made(t, len(list), list, sure)
	}
	j := journal.New(10)
	for i, e := range list {
		wantNo(t, "Add", j.Add(e), api.OK)
		holdAll(t, "added", j, linesOf(list[:i+1]), list[:i+1], i, false)
		wantNo(t, "Sync", j.Sync(), api.OK)
		wantNo(t, "Sync again", j.Sync(), api.OK)
		holdAll(t, "synced", j, linesOf(list[:i+1]), list[:i+1], i+1, false)
	}
}

// P4.1: a journal with no lines.
func TestEmpty(t *testing.T) {
	j := journal.New(3)
	holdAll(t, "new", j, nil, nil, 0, false)
	wantNo(t, "Sync", j.Sync(), api.OK)
	holdAll(t, "synced", j, nil, nil, 0, false)
	if gone := j.Recover(); gone != 0 {
		t.Errorf("Recover = %d", gone)
	}
	j.Crash(2, 2)
	holdAll(t, "crashed", j, nil, nil, 0, true)
	if gone := j.Recover(); gone != 0 {
		t.Errorf("Recover = %d", gone)
	}
	holdAll(t, "recovered", j, nil, nil, 0, false)
	wantNo(t, "Add", j.Add(api.Entry{Kind: "a"}), api.OK)
}

// P4.1: room is cut to 1 and MaxRoom; a full journal takes no more, be its
// lines sure or not, and goes on with what it has.
func TestRoom(t *testing.T) {
	for _, c := range []struct{ room, want int }{
		{math.MinInt, 1}, {-1, 1}, {0, 1}, {1, 1}, {2, 2}, {3, 3}, {100, 100},
		{4095, 4095}, {4096, 4096}, {4097, 4096}, {1 << 40, 4096}, {math.MaxInt, 4096},
	} {
		j := journal.New(c.room)
		var list []api.Entry
		for i := range c.want {
			e := api.Entry{Kind: "did", Id: i % 1000, N: []int{i}}
			list = append(list, e)
			if no := j.Add(e); no != api.OK {
				t.Fatalf("room %d: Add of line %d = %d", c.room, i, no)
			}
		}
		wantNo(t, "Add to a full one", j.Add(api.Entry{Kind: "a"}), api.ErrFull)
		holdAll(t, c.room, j, linesOf(list), list, 0, false)
		wantNo(t, "Sync of a full one", j.Sync(), api.OK)
		wantNo(t, "Add to a full one that is sure", j.Add(api.Entry{Kind: "a"}), api.ErrFull)
		holdAll(t, c.room, j, linesOf(list), list, c.want, false)
		j.Crash(0, 0)
		if gone := j.Recover(); gone != 0 {
			t.Errorf("room %d: %d gone", c.room, gone)
		}
		wantNo(t, "Add to a full one that was down", j.Add(api.Entry{Kind: "a"}), api.ErrFull)
		holdAll(t, c.room, j, linesOf(list), list, c.want, false)
	}
}

// P4.1: what a crash took makes room again.
func TestRoomAfterCrash(t *testing.T) {
	list := some()[:3]
	j := made(t, 3, list, 1)
	wantNo(t, "Add", j.Add(list[0]), api.ErrFull)
	j.Crash(0, 2)
	if gone := j.Recover(); gone != 1 {
		t.Errorf("%d gone; want 1", gone)
	}
	wantNo(t, "Add", j.Add(list[2]), api.OK)
	wantNo(t, "Add", j.Add(list[1]), api.OK)
	wantNo(t, "Add", j.Add(list[1]), api.ErrFull)
	want := []api.Entry{list[0], list[2], list[1]}
	holdAll(t, "again", j, linesOf(want), want, 1, false)
}

// P4.1: an entry that may not be is refused, with room and without, and
// nothing is changed by it; ErrDown comes ahead of ErrArg, that of ErrFull.
func TestAddWrong(t *testing.T) {
	list := some()
	for _, room := range []int{len(list), len(list) + 1} {
		j := made(t, room, list, 2)
		for _, e := range bad() {
			wantNo(t, fmt.Sprint("Add ", e), j.Add(e), api.ErrArg)
		}
		holdAll(t, "wrong ones added", j, linesOf(list), list, 2, false)
		j.Crash(len(list), 0)
		for _, e := range append(bad(), list...) {
			wantNo(t, fmt.Sprint("down: Add ", e), j.Add(e), api.ErrDown)
		}
		wantNo(t, "down: Sync", j.Sync(), api.ErrDown)
		holdAll(t, "added while down", j, linesOf(list), list, 2, true)
	}
}

// P4.1: a loop over All that ends is not gone on with, and the next one begins
// at the first entry.
func TestAllEndsEarly(t *testing.T) {
	list := some()
	j := made(t, 10, list, 3)
	all := j.All()
	for stop := range len(list) + 2 {
		var got []api.Entry
		calls := 0
		all(func(e api.Entry) bool {
			calls++
			got = append(got, e)
			return calls < stop
		})
		want := min(max(stop, 1), len(list))
		if calls != want || !alike(got, list[:want]) {
			t.Errorf("stopped at %d: %d calls, %v", stop, calls, got)
		}
	}
	for range 2 {
		var got []api.Entry
		for e := range all {
			if got = append(got, e); len(got) == 2 {
				break
			}
		}
		if !alike(got, list[:2]) {
			t.Errorf("a loop of two: %v", got)
		}
	}
	holdAll(t, "after the loops", j, linesOf(list), list, 3, false)
	all(nil)
}

// P4.1, R2: All goes over what was there when it was called, whatever is done
// to the journal behind its back or in the loop.
func TestAllIsTheCallers(t *testing.T) {
	list := some()
	j := made(t, 20, list, 2)
	all := j.All()
	var got []api.Entry
	for e := range all {
		got = append(got, e)
		wantNo(t, "Add in the loop", j.Add(api.Entry{Kind: "new"}), api.OK)
	}
	if !alike(got, list) || len(j.Lines()) != 2*len(list) {
		t.Errorf("with Add in the loop: %v, %q", got, j.Lines())
	}
	got = nil
	for e := range all {
		got = append(got, e)
		j.Crash(0, 3)
		j.Recover()
		wantNo(t, "Add in the loop", j.Add(api.Entry{Kind: "new"}), api.OK)
	}
	if !alike(got, list) {
		t.Errorf("with Crash in the loop: %v", got)
	}
	if got := slices.Collect(all); !alike(got, list) {
		t.Errorf("after a crash: %v", got)
	}
}

// R2: what is handed in is neither changed nor kept; what is told is the
// caller's own.
func TestMemory(t *testing.T) {
	list := some()
	j := made(t, 10, list, 0)
	for _, e := range list {
		for i := range e.N {
			e.N[i] = 77
		}
	}
	list = some()
	holdAll(t, "entries changed", j, linesOf(list), list, 0, false)
	lines := j.Lines()
	for i := range lines {
		lines[i] = "x"
	}
	_ = append(lines[:0], "y")
	_ = append(j.Lines(), "z")
	holdAll(t, "lines changed", j, linesOf(list), list, 0, false)
	all := j.All()
	for e := range all {
		for i := range e.N {
			e.N[i] = 77
		}
	}
	if got := slices.Collect(all); !alike(got, list) {
		t.Errorf("told entries changed: %v", got)
	}
	was := j.Lines()
	j.Crash(0, 1)
	if !slices.Equal(was, linesOf(list)) {
		t.Errorf("a crash changed what was told: %q", was)
	}
	spare := make([]int, 4)
	e := api.Entry{Kind: "a", N: spare[:1]}
	k := journal.New(1)
	wantNo(t, "Add", k.Add(e), api.OK)
	if !reflect.DeepEqual(spare, make([]int, 4)) || len(e.N) != 1 {
		t.Errorf("Add changed %v, %v", spare, e)
	}
}

// R2: journals are nothing to one another.
func TestTwoJournals(t *testing.T) {
	list := some()
	a, b := journal.New(10), journal.New(2)
	wantNo(t, "Add", a.Add(list[0]), api.OK)
	wantNo(t, "Add", b.Add(list[1]), api.OK)
	wantNo(t, "Sync", a.Sync(), api.OK)
	b.Crash(0, 2)
	holdAll(t, "a", a, linesOf(list[:1]), list[:1], 1, false)
	holdAll(t, "b", b, []string{"a "}, nil, 0, true)
}

// left is what the document says of Crash: the lines that are there then.
func left(lines []string, sure, stay, torn int) []string {
	out := slices.Clone(lines[:sure])
	for i, line := range lines[sure:] {
		switch {
		case i < stay:
			out = append(out, line)
		case torn >= len(line):
			return append(out, line[:len(line)-1])
		case torn >= 1:
			return append(out, line[:torn])
		default:
			return out
		}
	}
	return out
}

// stays and torns are those at the edges, and all that make a difference.
func stays() []int {
	return []int{math.MinInt, -5, -1, 0, 1, 2, 3, 4, 5, 6, 7, 100, math.MaxInt - 1, math.MaxInt}
}

func torns() []int {
	list := []int{math.MinInt, -5, -1, 100, math.MaxInt}
	for n := range 70 {
		list = append(list, n)
	}
	return list
}

// P4.2: what the document's example says.
func TestExample(t *testing.T) {
	list := some()[:3]
	j := made(t, 10, list, 2)
	j.Crash(0, 3)
	holdAll(t, "crashed", j, append(linesOf(list[:2]), "a 0"), list[:2], 2, true)
	if gone := j.Recover(); gone != 1 {
		t.Errorf("%d gone; want 1", gone)
	}
	holdAll(t, "recovered", j, linesOf(list[:2]), list[:2], 2, false)
}

// P4.2, by hand: a line of 10 bytes torn at each of its edges.
func TestTornByHand(t *testing.T) {
	e := api.Entry{Kind: "did", Id: 7, N: []int{2}}
	line := lineOf(e)
	if len(line) != 10 {
		t.Fatalf("line %q", line)
	}
	for _, c := range []struct {
		torn int
		want []string
	}{
		{math.MinInt, nil}, {-1, nil}, {0, nil}, {1, []string{"d"}}, {2, []string{"di"}}, {7, []string{"did 7 2"}}, {8, []string{"did 7 2|"}},
		{9, []string{line[:9]}}, {10, []string{line[:9]}}, {11, []string{line[:9]}}, {math.MaxInt, []string{line[:9]}},
	} {
		for _, stay := range []int{math.MinInt, -1, 0} {
			j := made(t, 1, []api.Entry{e}, 0)
			j.Crash(stay, c.torn)
			holdAll(t, c.torn, j, c.want, nil, 0, true)
			if gone := j.Recover(); gone != len(c.want) {
				t.Errorf("torn %d: %d gone", c.torn, gone)
			}
			holdAll(t, c.torn, j, nil, nil, 0, false)
		}
	}
}

// P4.2, P4.3: behind every crash and Recover there is what was sure, and a
// beginning of what was added.
func TestCrashAndRecover(t *testing.T) {
	list := some()
	lines := linesOf(list)
	for sure := range len(list) + 1 {
		for _, stay := range stays() {
			for _, torn := range torns() {
				what := fmt.Sprintf("%d sure, Crash(%d, %d)", sure, stay, torn)
				whole := sure + min(max(stay, 0), len(list)-sure)
				want := left(lines, sure, stay, torn)
				j := made(t, 10, list, sure)
				j.Crash(stay, torn)
				holdAll(t, what, j, want, list[:whole], sure, true)
				if gone := j.Recover(); gone != len(want)-whole || gone > 1 {
					t.Errorf("%s: %d gone", what, gone)
				}
				holdAll(t, what+", Recover", j, lines[:whole], list[:whole], whole, false)
				wantNo(t, "Add", j.Add(list[0]), api.OK)
				again := append(slices.Clone(list[:whole]), list[0])
				holdAll(t, what+", Recover, Add", j, linesOf(again), again, whole, false)
			}
		}
	}
}

// P4.2: a crash of one that is down does nothing, nor does Recover of one that
// is not down.
func TestTwice(t *testing.T) {
	list := some()
	lines := linesOf(list)
	j := made(t, 10, list, 1)
	for range 2 {
		if gone := j.Recover(); gone != 0 {
			t.Errorf("%d gone of one that is not down", gone)
		}
		holdAll(t, "Recover", j, lines, list, 1, false)
	}
	j.Crash(2, 4)
	for _, stay := range stays() {
		j.Crash(stay, 1)
		j.Crash(stay, 0)
		holdAll(t, "Crash again", j, left(lines, 1, 2, 4), list[:3], 1, true)
	}
	if gone := j.Recover(); gone != 1 {
		t.Errorf("%d gone; want 1", gone)
	}
	if gone := j.Recover(); gone != 0 {
		t.Errorf("%d gone again", gone)
	}
	j.Crash(0, 5)
	holdAll(t, "what Recover left is sure", j, lines[:3], list[:3], 3, true)
}

// P4.2: a nil journal.
func TestNil(t *testing.T) {
	var j *journal.Journal
	for range 2 {
		wantNo(t, "Add", j.Add(api.Entry{Kind: "a"}), api.ErrArg)
		wantNo(t, "Add", j.Add(api.Entry{}), api.ErrArg)
		wantNo(t, "Sync", j.Sync(), api.ErrArg)
		if gone := j.Recover(); gone != 0 {
			t.Errorf("Recover = %d", gone)
		}
		if j.All() == nil {
			t.Fatal("All is nil")
		}
		holdAll(t, "nil", j, nil, nil, 0, false)
		j.Crash(1, 1)
	}
}

// P4.3: of every line of many, no beginning Parses, however it was torn: so
// none is taken for another entry.
func TestTornNeverParses(t *testing.T) {
	for _, kind := range []string{"a", "z", "did", "ship", "abcdefgh"} {
		for id := range 1000 {
			for _, n := range [][]int{nil, {id}, {-id, 1000000000 - id}, {0, 1, 2, 3}} {
				line := lineOf(api.Entry{Kind: kind, Id: id, N: n})
				for torn := range len(line) {
					if e, no := entry.Parse(line[:torn]); no == api.OK {
						t.Fatalf("%q, torn, is %v", line[:torn], e)
					}
				}
			}
		}
	}
}

// plain is a journal as the document tells it, in the simplest of forms.
type plain struct {
	room, sure int
	list       []api.Entry
	rest       string // of a line that is torn
	down       bool
}

func (p *plain) lines() []string {
	lines := linesOf(p.list)
	if p.rest != "" {
		lines = append(lines, p.rest)
	}
	return lines
}

func (p *plain) add(e api.Entry) api.Errno {
	switch {
	case p.down:
		return api.ErrDown
	case e.Kind == "":
		return api.ErrArg
	case len(p.list) == p.room:
		return api.ErrFull
	}
	p.list = append(slices.Clone(p.list), e)
	return api.OK
}

func (p *plain) sync() api.Errno {
	if p.down {
		return api.ErrDown
	}
	p.sure = len(p.list)
	return api.OK
}

func (p *plain) crash(stay, torn int) {
	if p.down {
		return
	}
	there := left(p.lines(), p.sure, stay, torn)
	whole := min(p.sure+max(stay, 0), len(p.list))
	if len(there) > whole {
		p.rest = there[whole]
	}
	p.list, p.down = p.list[:whole], true
}

func (p *plain) recover() int {
	if !p.down {
		return 0
	}
	gone := 0
	if p.rest != "" {
		gone = 1
	}
	p.rest, p.sure, p.down = "", len(p.list), false
	return gone
}

// step does one thing to both; whether they tell the same of it.
func step(kind int, j *journal.Journal, p *plain) (string, bool) {
	crash := func(stay, torn int) (string, bool) {
		j.Crash(stay, torn)
		p.crash(stay, torn)
		return fmt.Sprintf("Crash(%d, %d)", stay, torn), true
	}
	long := api.Entry{Kind: "undid", Id: 12, N: []int{-3, 4}}
	switch kind {
	case 0:
		return "Add a", j.Add(api.Entry{Kind: "a"}) == p.add(api.Entry{Kind: "a"})
	case 1:
		return "Add undid", j.Add(long) == p.add(long)
	case 2:
		return "Add nothing", j.Add(api.Entry{}) == p.add(api.Entry{})
	case 3:
		return "Sync", j.Sync() == p.sync()
	case 4:
		return crash(0, 0)
	case 5:
		return crash(1, 3)
	case 6:
		return crash(0, 1000)
	}
	return "Recover", j.Recover() == p.recover()
}

// kinds is how many kinds of steps there are.
const kinds = 8

// P4.1, P4.2, P4.3: all runs of six steps, held against a plain journal at
// each of them.
func TestAllRuns(t *testing.T) {
	const length = 6
	runs := 1
	for range length {
		runs *= kinds
	}
	for run := range runs {
		j, p := journal.New(2), &plain{room: 2}
		var did []string
		for rest, n := run, 0; n < length; rest, n = rest/kinds, n+1 {
			told, ok := step(rest%kinds, j, p)
			did = append(did, told)
			same := slices.Equal(j.Lines(), p.lines()) && j.Sure() == p.sure && j.Down() == p.down && alike(slices.Collect(j.All()), p.list)
			if !ok || !same {
				t.Fatalf("%s: lines %q, %d sure, down %v; want %+v", strings.Join(did, ", "), j.Lines(), j.Sure(), j.Down(), *p)
			}
		}
	}
}

// P4.3: over many crashes what was sure stays, in order, at the beginning.
func TestManyCrashes(t *testing.T) {
	j := journal.New(api.MaxRoom)
	var sure []api.Entry
	for round := range 300 {
		added := slices.Clone(sure)
		for i := range round%5 + 1 {
			e := api.Entry{Kind: "did", Id: round, N: []int{i, -round}}
			added = append(added, e)
			wantNo(t, "Add", j.Add(e), api.OK)
			if round%3 == 0 && i == 1 {
				wantNo(t, "Sync", j.Sync(), api.OK)
				sure = slices.Clone(added)
			}
		}
		j.Crash(round%4-1, round%17-1)
		if gone := j.Recover(); gone > 1 {
			t.Fatalf("round %d: %d gone", round, gone)
		}
		got := slices.Collect(j.All())
		if len(got) < len(sure) || len(got) > len(added) || !alike(got, added[:len(got)]) || j.Sure() != len(got) {
			t.Fatalf("round %d: %v behind %v", round, got, added)
		}
		sure = got
	}
	if len(sure) < 300 {
		t.Errorf("%d are there at the end", len(sure))
	}
}

// R6: two journals that are treated alike tell alike.
func TestSameAgain(t *testing.T) {
	tell := func() string {
		j := made(t, 9, some(), 2)
		j.Crash(1, 5)
		return fmt.Sprint(j.Lines(), j.Sure(), j.Recover(), slices.Collect(j.All()), j.Sure())
	}
	if a, b := tell(), tell(); a != b {
		t.Errorf("%s; then %s", a, b)
	}
}
