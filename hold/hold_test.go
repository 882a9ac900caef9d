package hold_test

import (
	"fmt"
	"math"
	"slices"
	"testing"

	"wharfinger/api"
	"wharfinger/hold"
)

const most = api.MaxAmount

// noIds are numbers that are no ids; some of them end in the bits of one.
var noIds = []int{0, -1, -2, -api.MaxId, api.MaxId + 1, most, 1<<32 + 1, -1 << 32, math.MinInt, math.MinInt + 1, math.MaxInt}

// noCounts are numbers that are no amount above 0.
var noCounts = []int{0, -1, -2, -most, most + 1, 2 * most, 1<<32 + 1, -1 << 32, math.MinInt, math.MinInt + 1, math.MaxInt}

// grip is how much one holds.
type grip struct{ id, n int }

// call is Take of n for id, or, with n at giveBack, Back of id.
type call struct{ id, n int }

const giveBack = math.MinInt + 7

func (c call) String() string {
	if c.n == giveBack {
		return fmt.Sprintf("Back(%d)", c.id)
	}
	return fmt.Sprintf("Take(%d, %d)", c.id, c.n)
}

func (c call) on(b *hold.Book) api.Errno {
	if c.n == giveBack {
		return b.Back(c.id)
	}
	return b.Take(c.id, c.n)
}

// plain is a book as the document's words have it: who holds what, in the order
// in which they took; what is left is counted anew each time.
type plain struct {
	room  int
	grips []grip
}

func (p *plain) at(id int) int {
	return slices.IndexFunc(p.grips, func(g grip) bool { return g.id == id })
}

func (p *plain) left() int {
	left := p.room
	for _, g := range p.grips {
		left -= g.n
	}
	return left
}

func (p *plain) take(id, n int) api.Errno {
	switch {
	case id < 1 || id > 999 || n < 1 || n > 1000000000:
		return api.ErrArg
	case p.at(id) >= 0:
		return api.ErrTwice
	case p.left() < n:
		return api.ErrLess
	}
	p.grips = append(p.grips, grip{id, n})
	return api.OK
}

func (p *plain) back(id int) api.Errno {
	i := p.at(id)
	if i < 0 {
		return api.ErrNone
	}
	p.grips = slices.Delete(p.grips, i, i+1)
	return api.OK
}

func (p *plain) do(c call) api.Errno {
	if c.n == giveBack {
		return p.back(c.id)
	}
	return p.take(c.id, c.n)
}

// holdBook holds all that is to be seen of b against who is wanted to hold
// what (rising), of so much room (P7.2: it is still there, left or held).
func holdBook(t *testing.T, what any, b *hold.Book, room int, grips ...grip) {
	t.Helper()
	left := room
	var ids []int
	for _, g := range grips {
		left -= g.n
		ids = append(ids, g.id)
		if n, ok := b.Has(g.id); n != g.n || !ok {
			t.Errorf("%v: Has(%d) = %d, %v; want %d", what, g.id, n, ok, g.n)
		}
	}
	if got := b.Left(); got != left {
		t.Errorf("%v: %d left; want %d", what, got, left)
	}
	if got := slices.Collect(b.Ids()); !slices.Equal(got, ids) {
		t.Errorf("%v: ids %v; want %v", what, got, ids)
	}
	for _, id := range append([]int{1, 2, 3, 7, api.MaxId - 1, api.MaxId}, noIds...) {
		if slices.Contains(ids, id) {
			continue
		}
		if n, ok := b.Has(id); n != 0 || ok {
			t.Errorf("%v: Has(%d) = %d, %v; want none", what, id, n, ok)
		}
	}
}

func wantNo(t *testing.T, what any, got, want api.Errno) {
	t.Helper()
	if got != want {
		t.Errorf("%v = %d; want %d", what, got, want)
	}
}

// filled is a book of so much room in which each grip was taken.
func filled(t *testing.T, room int, grips ...grip) *hold.Book {
	t.Helper()
	b := hold.New(room)
	for _, g := range grips {
		wantNo(t, g, b.Take(g.id, g.n), api.OK)
	}
	return b
}

// P7.1: so much is left, others cut; nothing is held.
func TestNew(t *testing.T) {
	for _, c := range []struct{ room, want int }{
		{0, 0}, {1, 1}, {5, 5}, {most - 1, most - 1}, {most, most},
		{-1, 0}, {-5, 0}, {-most, 0}, {-1 << 32, 0}, {math.MinInt, 0},
		{most + 1, most}, {2 * most, most}, {1 << 32, most}, {math.MaxInt, most},
	} {
		holdBook(t, fmt.Sprintf("New(%d)", c.room), hold.New(c.room), c.want)
	}
}

// P7.1: the chapter's example.
func TestExample(t *testing.T) {
	b := hold.New(5)
	wantNo(t, "the first", b.Take(1, 3), api.OK)
	wantNo(t, "the second", b.Take(2, 3), api.ErrLess)
	holdBook(t, "behind both", b, 5, grip{1, 3})
}

// P7.1, P7.2: some take, some give back, one behind the other.
func TestTakeAndBack(t *testing.T) {
	b := hold.New(20)
	for _, s := range []struct {
		call  call
		want  api.Errno
		grips []grip
	}{
		{call{7, 4}, api.OK, []grip{{7, 4}}},
		{call{3, 5}, api.OK, []grip{{3, 5}, {7, 4}}},
		{call{999, 6}, api.OK, []grip{{3, 5}, {7, 4}, {999, 6}}},
		{call{1, 1}, api.OK, []grip{{1, 1}, {3, 5}, {7, 4}, {999, 6}}},
		{call{500, 5}, api.ErrLess, []grip{{1, 1}, {3, 5}, {7, 4}, {999, 6}}},
		{call{500, 4}, api.OK, []grip{{1, 1}, {3, 5}, {7, 4}, {500, 4}, {999, 6}}},
		{call{2, 1}, api.ErrLess, []grip{{1, 1}, {3, 5}, {7, 4}, {500, 4}, {999, 6}}},
		{call{3, giveBack}, api.OK, []grip{{1, 1}, {7, 4}, {500, 4}, {999, 6}}},
		{call{3, giveBack}, api.ErrNone, []grip{{1, 1}, {7, 4}, {500, 4}, {999, 6}}},
		{call{2, 2}, api.OK, []grip{{1, 1}, {2, 2}, {7, 4}, {500, 4}, {999, 6}}},
		{call{3, 4}, api.ErrLess, []grip{{1, 1}, {2, 2}, {7, 4}, {500, 4}, {999, 6}}},
		{call{3, 3}, api.OK, []grip{{1, 1}, {2, 2}, {3, 3}, {7, 4}, {500, 4}, {999, 6}}},
		{call{999, giveBack}, api.OK, []grip{{1, 1}, {2, 2}, {3, 3}, {7, 4}, {500, 4}}},
		{call{1, giveBack}, api.OK, []grip{{2, 2}, {3, 3}, {7, 4}, {500, 4}}},
		{call{7, giveBack}, api.OK, []grip{{2, 2}, {3, 3}, {500, 4}}},
		{call{500, giveBack}, api.OK, []grip{{2, 2}, {3, 3}}},
		{call{2, giveBack}, api.OK, []grip{{3, 3}}},
		{call{3, giveBack}, api.OK, nil},
		{call{42, 20}, api.OK, []grip{{42, 20}}},
	} {
		wantNo(t, s.call, s.call.on(b), s.want)
		holdBook(t, s.call, b, 20, s.grips...)
	}
}

// P7.1: the edges: nothing, all there may be, just what is left, one more; the
// least and the greatest id.
func TestEdges(t *testing.T) {
	for _, id := range []int{1, 2, api.MaxId - 1, api.MaxId} {
		for _, c := range []struct {
			room, n int
			want    api.Errno
		}{
			{0, 1, api.ErrLess}, {0, most, api.ErrLess}, {-5, 1, api.ErrLess},
			{1, 1, api.OK}, {1, 2, api.ErrLess},
			{5, 4, api.OK}, {5, 5, api.OK}, {5, 6, api.ErrLess}, {5, most, api.ErrLess},
			{most - 1, most - 1, api.OK}, {most - 1, most, api.ErrLess},
			{most, 1, api.OK}, {most, most - 1, api.OK}, {most, most, api.OK},
			{math.MaxInt, most, api.OK},
		} {
			what := fmt.Sprintf("of %d, Take(%d, %d)", c.room, id, c.n)
			b, room := hold.New(c.room), min(max(c.room, 0), most)
			wantNo(t, what, b.Take(id, c.n), c.want)
			if c.want != api.OK {
				holdBook(t, what, b, room)
				wantNo(t, what+", Back", b.Back(id), api.ErrNone)
				continue
			}
			holdBook(t, what, b, room, grip{id, c.n})
			wantNo(t, what+", Back", b.Back(id), api.OK)
			holdBook(t, what+", Back", b, room)
		}
	}
}

// P7.1: behind what others hold just what is left may be taken, not one more.
func TestLess(t *testing.T) {
	for _, room := range []int{3, 100, most - 1, most} {
		b := filled(t, room, grip{5, 1}, grip{4, room - 2})
		for _, n := range []int{2, 3, room, most} {
			wantNo(t, n, b.Take(6, n), api.ErrLess)
		}
		holdBook(t, "behind one more", b, room, grip{4, room - 2}, grip{5, 1})
		wantNo(t, "just what is left", b.Take(6, 1), api.OK)
		holdBook(t, "behind just that", b, room, grip{4, room - 2}, grip{5, 1}, grip{6, 1})
		wantNo(t, "of nothing left", b.Take(7, 1), api.ErrLess)
		wantNo(t, "give back", b.Back(4), api.OK)
		wantNo(t, "one more than that", b.Take(7, room-1), api.ErrLess)
		wantNo(t, "all of that", b.Take(7, room-2), api.OK)
		holdBook(t, "at last", b, room, grip{5, 1}, grip{6, 1}, grip{7, room - 2})
	}
}

// P7.1: who gave back may take again, more than before or less, as often as
// that comes.
func TestAgain(t *testing.T) {
	b := filled(t, 10, grip{8, 2})
	for n := 1; n <= 8; n++ {
		wantNo(t, n, b.Take(7, n), api.OK)
		holdBook(t, n, b, 10, grip{7, n}, grip{8, 2})
		wantNo(t, n, b.Back(7), api.OK)
		holdBook(t, n, b, 10, grip{8, 2})
		wantNo(t, n, b.Back(7), api.ErrNone)
		holdBook(t, n, b, 10, grip{8, 2})
	}
}

// P7.1: what is no id, or no amount above 0, is refused, with the other one
// right or wrong, whatever else is so; and nothing changes.
func TestTakeWrong(t *testing.T) {
	for _, c := range []struct {
		what  string
		room  int
		grips []grip
	}{
		{"a book of nothing", 0, nil},
		{"a book with all left", most, nil},
		{"a book with some held", 10, []grip{{1, 3}, {7, 2}, {999, 1}}},
		{"a book with all held", 10, []grip{{1, 7}, {7, 2}, {999, 1}}},
	} {
		b := filled(t, c.room, c.grips...)
		for _, id := range noIds {
			for _, n := range append([]int{1, 2, 10, 11, most}, noCounts...) {
				wantNo(t, fmt.Sprintf("%s: %v", c.what, call{id, n}), b.Take(id, n), api.ErrArg)
			}
			holdBook(t, fmt.Sprintf("%s: %d", c.what, id), b, c.room, c.grips...)
		}
		for _, n := range noCounts {
			for _, id := range []int{1, 2, 7, 998, 999} {
				wantNo(t, fmt.Sprintf("%s: %v", c.what, call{id, n}), b.Take(id, n), api.ErrArg)
			}
			holdBook(t, fmt.Sprintf("%s: n %d", c.what, n), b, c.room, c.grips...)
		}
	}
}

// P7.1: who holds some takes no more, be it left or not: ErrTwice comes ahead
// of ErrLess.
func TestTwice(t *testing.T) {
	for _, room := range []int{3, 4, 10, most} {
		b := filled(t, room, grip{7, 3})
		for _, n := range []int{1, 2, 3, 4, 7, 8, 10, 11, most} {
			wantNo(t, call{7, n}, b.Take(7, n), api.ErrTwice)
			holdBook(t, call{7, n}, b, room, grip{7, 3})
		}
	}
}

// P7.1: who holds none gives none back; be it an id or not.
func TestBackNone(t *testing.T) {
	for _, grips := range [][]grip{nil, {{5, 2}}, {{5, 2}, {6, 8}}} {
		b := filled(t, 10, grips...)
		for _, id := range append([]int{1, 2, 4, 7, 998, 999}, noIds...) {
			wantNo(t, call{id, giveBack}, b.Back(id), api.ErrNone)
		}
		holdBook(t, grips, b, 10, grips...)
	}
}

// P7.1, P7.2: every run of up to five calls, held against a plain book.
func TestRuns(t *testing.T) {
	const room = 4
	var calls []call
	for _, id := range []int{2, 1, 999} {
		calls = append(calls, call{id, 1}, call{id, 2}, call{id, 4}, call{id, giveBack})
	}
	runs := [][]call{nil}
	for range 5 {
		var next [][]call
		for _, run := range runs {
			for _, c := range calls {
				next = append(next, append(slices.Clone(run), c))
			}
		}
		runs = next
		for _, run := range runs {
			holdRun(t, room, run)
			if t.Failed() {
				return
			}
		}
	}
}

// holdRun makes the calls on a book and on a plain one.
func holdRun(t *testing.T, room int, run []call) {
	t.Helper()
	b, p := hold.New(room), &plain{room: room}
	for _, c := range run {
		wantNo(t, run, c.on(b), p.do(c))
	}
	grips := slices.Clone(p.grips)
	slices.SortFunc(grips, func(a, b grip) int { return a.id - b.id })
	holdBook(t, run, b, room, grips...)
}

// P7.1, P7.2: all ids there are, in an order that neither rises nor falls.
func TestAllIds(t *testing.T) {
	const room = 1 + 999*1000/2
	b := hold.New(room)
	left := room
	for i := 1; i <= api.MaxId; i++ {
		id := 377 * i % 1000
		wantNo(t, id, b.Take(id, id), api.OK)
		left -= id
		if b.Left() != left {
			t.Fatalf("behind %d: %d left; want %d", id, b.Left(), left)
		}
	}
	for round := range 3 {
		next := 1
		for id := range b.Ids() {
			if id != next {
				t.Fatalf("round %d: id %d; want %d", round, id, next)
			}
			next++
		}
		if next != api.MaxId+1 {
			t.Fatalf("round %d ended ahead of %d", round, next)
		}
	}
	wantNo(t, "twice", b.Take(500, 1), api.ErrTwice)
	for i := 1; i <= api.MaxId; i++ {
		id := 891 * i % 1000
		wantNo(t, id, b.Back(id), api.OK)
		left += id
		if b.Left() != left {
			t.Fatalf("behind Back(%d): %d left; want %d", id, b.Left(), left)
		}
	}
	holdBook(t, "at last", b, room)
}

// P7.1: Ids ends when the loop does, at each of its places; and may be gone
// over again.
func TestIdsEnd(t *testing.T) {
	want := []int{1, 3, 7, 500, 999}
	b := filled(t, 10, grip{500, 1}, grip{7, 1}, grip{999, 1}, grip{1, 1}, grip{3, 1})
	seq := b.Ids()
	for last := range want {
		var got []int
		seq(func(id int) bool {
			got = append(got, id)
			return id != want[last]
		})
		if !slices.Equal(got, want[:last+1]) {
			t.Errorf("ended at %d: %v", want[last], got)
		}
		got = nil
		for id := range seq {
			got = append(got, id)
			if id == want[last] {
				break
			}
		}
		if !slices.Equal(got, want[:last+1]) {
			t.Errorf("left at %d: %v", want[last], got)
		}
	}
	if got := slices.Collect(seq); !slices.Equal(got, want) {
		t.Errorf("behind loops that ended: %v", got)
	}
	holdBook(t, "behind loops", b, 10, grip{1, 1}, grip{3, 1}, grip{7, 1}, grip{500, 1}, grip{999, 1})
}

// P7.1: loops inside one another do not disturb each other.
func TestIdsNested(t *testing.T) {
	b := filled(t, 10, grip{7, 1}, grip{1, 1}, grip{999, 1})
	seq := b.Ids()
	var got []int
	for id := range seq {
		if inner := slices.Collect(seq); !slices.Equal(inner, []int{1, 7, 999}) {
			t.Errorf("inside, at %d: %v", id, inner)
		}
		got = append(got, id)
	}
	if !slices.Equal(got, []int{1, 7, 999}) {
		t.Errorf("around: %v", got)
	}
}

// P7.1: where nobody holds anything the loop goes over nothing.
func TestIdsNone(t *testing.T) {
	gaveBack := filled(t, 5, grip{1, 2}, grip{2, 3})
	wantNo(t, "one", gaveBack.Back(1), api.OK)
	wantNo(t, "two", gaveBack.Back(2), api.OK)
	refused := hold.New(5)
	wantNo(t, "too much", refused.Take(1, 6), api.ErrLess)
	for what, b := range map[string]*hold.Book{"new": hold.New(5), "of nothing": hold.New(0), "all gave back": gaveBack, "refused": refused} {
		for id := range b.Ids() {
			t.Errorf("%s: %d", what, id)
		}
	}
}

// R2: a loop goes over those who held some when Ids was called; the book may be
// changed in it, ahead of where it is and behind that.
func TestIdsWhileChanged(t *testing.T) {
	b := filled(t, 10, grip{7, 1}, grip{1, 2}, grip{999, 3})
	ahead := b.Ids()
	changes := map[int][]call{
		1:   {{1, giveBack}, {2, 4}, {998, 1}},
		7:   {{999, giveBack}, {7, giveBack}},
		999: {{1, 1}, {2, giveBack}},
	}
	var got []int
	for id := range b.Ids() {
		got = append(got, id)
		for _, c := range changes[id] {
			wantNo(t, c, c.on(b), api.OK)
		}
	}
	if !slices.Equal(got, []int{1, 7, 999}) {
		t.Errorf("changed in the loop: %v", got)
	}
	holdBook(t, "behind the loop", b, 10, grip{1, 1}, grip{998, 1})
	if got := slices.Collect(ahead); !slices.Equal(got, []int{1, 7, 999}) {
		t.Errorf("changed behind the call: %v", got)
	}
}

// R3: nothing panics where no loop is there.
func TestIdsWithoutLoop(t *testing.T) {
	filled(t, 5, grip{1, 2}).Ids()(nil)
	hold.New(5).Ids()(nil)
	var none *hold.Book
	none.Ids()(nil)
}

// R2: books keep to themselves.
func TestBooksApart(t *testing.T) {
	a, b := filled(t, 5, grip{1, 2}), filled(t, 9, grip{1, 4}, grip{2, 5})
	wantNo(t, "back in one", a.Back(1), api.OK)
	holdBook(t, "the one", a, 5)
	holdBook(t, "the other", b, 9, grip{1, 4}, grip{2, 5})
	wantNo(t, "none in one", a.Back(2), api.ErrNone)
	wantNo(t, "take in one", a.Take(2, 5), api.OK)
	holdBook(t, "the one, later", a, 5, grip{2, 5})
	holdBook(t, "the other, later", b, 9, grip{1, 4}, grip{2, 5})
}

// P7.1: a nil book tells ErrArg ahead of all else, and zero values.
func TestNil(t *testing.T) {
	var none *hold.Book
	for _, id := range append([]int{1, 7, 999}, noIds...) {
		for _, n := range append([]int{1, 5, most}, noCounts...) {
			wantNo(t, call{id, n}, none.Take(id, n), api.ErrArg)
		}
		wantNo(t, call{id, giveBack}, none.Back(id), api.ErrArg)
	}
	holdBook(t, "nil", none, 0)
	if none.Ids() == nil {
		t.Error("Ids of a nil book tells no function")
	}
}

// R3: a book that New did not make is one of nothing.
func TestZeroBook(t *testing.T) {
	var b hold.Book
	wantNo(t, "Take", b.Take(1, 1), api.ErrLess)
	wantNo(t, "Take of no id", b.Take(0, 1), api.ErrArg)
	wantNo(t, "Back", b.Back(1), api.ErrNone)
	holdBook(t, "zero", &b, 0)
}
