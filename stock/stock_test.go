package stock_test

import (
	"fmt"
	"math"
	"slices"
	"testing"

	"wharfinger/api"
	"wharfinger/stock"
)

const (
	most  = api.MaxAmount
	items = api.MaxItems
)

// noIds are numbers that are no ids; some of them end in the bits of one.
var noIds = []int{0, -1, -2, -api.MaxId, api.MaxId + 1, most, 1<<32 + 1, -1 << 32, math.MinInt, math.MinInt + 1, math.MaxInt}

// noItems are numbers that are no items; some of them end in the bits of one.
var noItems = []int{-1, -2, -items, items, items + 1, api.MaxId, most, 1 << 32, 1<<32 + 1, -1 << 32, math.MinInt, math.MinInt + 1, math.MaxInt}

// noCounts are numbers that are no amount above 0.
var noCounts = []int{0, -1, -2, -most, most + 1, 2 * most, 1<<32 + 1, -1 << 32, math.MinInt, math.MinInt + 1, math.MaxInt}

// row is how many there are of each item.
type row [items]int

// lot is what one has reserved.
type lot struct{ id, item, qty int }

// kind is which of the calls is made.
type kind int

const (
	reserve kind = iota
	commit
	release
)

// call is one of them; item and qty are those of Reserve.
type call struct {
	kind          kind
	id, item, qty int
}

func (c call) String() string {
	switch c.kind {
	case commit:
		return fmt.Sprintf("Commit(%d)", c.id)
	case release:
		return fmt.Sprintf("Release(%d)", c.id)
	}
	return fmt.Sprintf("Reserve(%d, %d, %d)", c.id, c.item, c.qty)
}

func (c call) on(b *stock.Book) api.Errno {
	switch c.kind {
	case commit:
		return b.Commit(c.id)
	case release:
		return b.Release(c.id)
	}
	return b.Reserve(c.id, c.item, c.qty)
}

// plain is a book as the document's words have it: what there was, what is
// reserved and what was committed; all else is counted anew each time.
type plain struct {
	first row
	lots  []lot
	sold  []lot
}

func less(from row, lots []lot) row {
	for _, l := range lots {
		from[l.item] -= l.qty
	}
	return from
}

func (p *plain) onHand() row { return less(p.first, p.sold) }

func (p *plain) free() row { return less(p.onHand(), p.lots) }

func (p *plain) at(id int) int {
	return slices.IndexFunc(p.lots, func(l lot) bool { return l.id == id })
}

func (p *plain) do(c call) api.Errno {
	i := p.at(c.id)
	switch {
	case c.kind == reserve && (c.id < 1 || c.id > 999 || c.item < 0 || c.item > 7 || c.qty < 1 || c.qty > 1000000000):
		return api.ErrArg
	case c.kind == reserve && i >= 0:
		return api.ErrTwice
	case c.kind == reserve && p.free()[c.item] < c.qty:
		return api.ErrLess
	case c.kind == reserve:
		p.lots = append(p.lots, lot{c.id, c.item, c.qty})
		return api.OK
	case i < 0:
		return api.ErrNone
	case c.kind == commit:
		p.sold = append(p.sold, p.lots[i])
	}
	p.lots = slices.Delete(p.lots, i, i+1)
	return api.OK
}

// holdBook holds all that is to be seen of b against what is wanted to be on
// hand and who is wanted to have reserved what (free is what is left of that).
func holdBook(t *testing.T, what any, b *stock.Book, onHand row, lots ...lot) {
	t.Helper()
	free := less(onHand, lots)
	for item := range items {
		if hand := b.OnHand(item); hand != onHand[item] {
			t.Errorf("%v: %d of %d on hand; want %d", what, hand, item, onHand[item])
		}
		if got := b.Free(item); got != free[item] {
			t.Errorf("%v: %d of %d free; want %d", what, got, item, free[item])
		}
	}
	for _, item := range noItems {
		if hand, got := b.OnHand(item), b.Free(item); hand != 0 || got != 0 {
			t.Errorf("%v: of no item %d: %d on hand, %d free", what, item, hand, got)
		}
	}
	for _, l := range lots {
		if item, qty, ok := b.Has(l.id); item != l.item || qty != l.qty || !ok {
			t.Errorf("%v: Has(%d) = %d, %d, %v; want %d of %d", what, l.id, item, qty, ok, l.qty, l.item)
		}
	}
	for _, id := range append([]int{1, 2, 3, 7, 8, 9, api.MaxId - 1, api.MaxId}, noIds...) {
		if slices.ContainsFunc(lots, func(l lot) bool { return l.id == id }) {
			continue
		}
		if item, qty, ok := b.Has(id); item != 0 || qty != 0 || ok {
			t.Errorf("%v: Has(%d) = %d, %d, %v; want none", what, id, item, qty, ok)
		}
	}
}

func wantNo(t *testing.T, what any, got, want api.Errno) {
	t.Helper()
	if got != want {
		t.Errorf("%v = %d; want %d", what, got, want)
	}
}

// filled is a book with so much on hand in which each lot was reserved.
func filled(t *testing.T, onHand row, lots ...lot) *stock.Book {
	t.Helper()
	b := stock.New(onHand[:])
	for _, l := range lots {
		wantNo(t, l, b.Reserve(l.id, l.item, l.qty), api.OK)
	}
	return b
}

// P8.1: of item i l[i] are on hand, cut to an amount; what l has not: 0; what
// lies behind the last item is nobody's. All of it is free.
func TestNew(t *testing.T) {
	for _, c := range []struct {
		l    []int
		want row
	}{
		{nil, row{}},
		{[]int{}, row{}},
		{[]int{5}, row{5}},
		{[]int{0}, row{}},
		{[]int{most}, row{most}},
		{[]int{1, 2, 3}, row{1, 2, 3}},
		{[]int{0, 0, 0, 0, 0, 0, 0}, row{}},
		{[]int{1, 2, 3, 4, 5, 6, 7}, row{1, 2, 3, 4, 5, 6, 7}},
		{[]int{1, 2, 3, 4, 5, 6, 7, 8}, row{1, 2, 3, 4, 5, 6, 7, 8}},
		{[]int{1, 2, 3, 4, 5, 6, 7, 8, 9}, row{1, 2, 3, 4, 5, 6, 7, 8}},
		{slices.Repeat([]int{6}, 1000), row{6, 6, 6, 6, 6, 6, 6, 6}},
		{slices.Repeat([]int{most}, items), row{most, most, most, most, most, most, most, most}},
		{[]int{-1, most + 1, -5, 2 * most, 3, math.MinInt, math.MaxInt, -1}, row{0, most, 0, most, 3, 0, most, 0}},
		{[]int{-most, 1 << 32, -1 << 32, 0, most - 1, -2, 1, math.MaxInt, math.MaxInt}, row{0, most, 0, 0, most - 1, 0, 1, most}},
	} {
		holdBook(t, fmt.Sprintf("New of %d, %v", len(c.l), c.l[:min(len(c.l), 10)]), stock.New(c.l), c.want)
	}
}

// R2: the row stays the caller's: New neither changes nor keeps it, and what
// lies behind its length is not read.
func TestNewLeavesRow(t *testing.T) {
	whole := []int{4, -5, most + 1, 77, 88}
	b := stock.New(whole[:3])
	if !slices.Equal(whole, []int{4, -5, most + 1, 77, 88}) {
		t.Errorf("the row is %v", whole)
	}
	want := row{4, 0, most}
	holdBook(t, "at first", b, want)
	for i := range whole {
		whole[i] = 99
	}
	holdBook(t, "behind a change of the row", b, want)
	wantNo(t, "Reserve", b.Reserve(1, 0, 3), api.OK)
	wantNo(t, "Commit", b.Commit(1), api.OK)
	if !slices.Equal(whole, []int{99, 99, 99, 99, 99}) {
		t.Errorf("behind calls the row is %v", whole)
	}
}

// P8.1: the chapter's example.
func TestExample(t *testing.T) {
	b := stock.New([]int{5})
	wantNo(t, "Reserve", b.Reserve(1, 0, 2), api.OK)
	if b.Free(0) != 3 || b.OnHand(0) != 5 {
		t.Errorf("reserved: %d, %d", b.Free(0), b.OnHand(0))
	}
	wantNo(t, "Commit", b.Commit(1), api.OK)
	if b.Free(0) != 3 || b.OnHand(0) != 3 {
		t.Errorf("committed: %d, %d", b.Free(0), b.OnHand(0))
	}
}

// P8.1, P8.2: some reserve, some commit, some release, of several items, one
// behind the other.
func TestOrders(t *testing.T) {
	b := stock.New([]int{10, 3, 0, most, 0, 0, 0, 6})
	for _, s := range []struct {
		call   call
		want   api.Errno
		onHand row
		lots   []lot
	}{
		{call{reserve, 7, 0, 4}, api.OK, row{10, 3, 0, most, 0, 0, 0, 6}, []lot{{7, 0, 4}}},
		{call{reserve, 3, 7, 5}, api.OK, row{10, 3, 0, most, 0, 0, 0, 6}, []lot{{7, 0, 4}, {3, 7, 5}}},
		{call{reserve, 999, 0, 6}, api.OK, row{10, 3, 0, most, 0, 0, 0, 6}, []lot{{7, 0, 4}, {3, 7, 5}, {999, 0, 6}}},
		{call{reserve, 1, 0, 1}, api.ErrLess, row{10, 3, 0, most, 0, 0, 0, 6}, []lot{{7, 0, 4}, {3, 7, 5}, {999, 0, 6}}},
		{call{reserve, 1, 1, 1}, api.OK, row{10, 3, 0, most, 0, 0, 0, 6}, []lot{{7, 0, 4}, {3, 7, 5}, {999, 0, 6}, {1, 1, 1}}},
		{call{commit, 7, 0, 0}, api.OK, row{6, 3, 0, most, 0, 0, 0, 6}, []lot{{3, 7, 5}, {999, 0, 6}, {1, 1, 1}}},
		{call{commit, 7, 0, 0}, api.ErrNone, row{6, 3, 0, most, 0, 0, 0, 6}, []lot{{3, 7, 5}, {999, 0, 6}, {1, 1, 1}}},
		{call{release, 7, 0, 0}, api.ErrNone, row{6, 3, 0, most, 0, 0, 0, 6}, []lot{{3, 7, 5}, {999, 0, 6}, {1, 1, 1}}},
		{call{release, 3, 0, 0}, api.OK, row{6, 3, 0, most, 0, 0, 0, 6}, []lot{{999, 0, 6}, {1, 1, 1}}},
		{call{release, 3, 0, 0}, api.ErrNone, row{6, 3, 0, most, 0, 0, 0, 6}, []lot{{999, 0, 6}, {1, 1, 1}}},
		{call{commit, 3, 0, 0}, api.ErrNone, row{6, 3, 0, most, 0, 0, 0, 6}, []lot{{999, 0, 6}, {1, 1, 1}}},
		{call{reserve, 3, 3, most}, api.OK, row{6, 3, 0, most, 0, 0, 0, 6}, []lot{{999, 0, 6}, {1, 1, 1}, {3, 3, most}}},
		{call{reserve, 2, 7, 6}, api.OK, row{6, 3, 0, most, 0, 0, 0, 6}, []lot{{999, 0, 6}, {1, 1, 1}, {3, 3, most}, {2, 7, 6}}},
		{call{commit, 3, 0, 0}, api.OK, row{6, 3, 0, 0, 0, 0, 0, 6}, []lot{{999, 0, 6}, {1, 1, 1}, {2, 7, 6}}},
		{call{reserve, 3, 3, 1}, api.ErrLess, row{6, 3, 0, 0, 0, 0, 0, 6}, []lot{{999, 0, 6}, {1, 1, 1}, {2, 7, 6}}},
		{call{release, 999, 0, 0}, api.OK, row{6, 3, 0, 0, 0, 0, 0, 6}, []lot{{1, 1, 1}, {2, 7, 6}}},
		{call{reserve, 7, 0, 6}, api.OK, row{6, 3, 0, 0, 0, 0, 0, 6}, []lot{{1, 1, 1}, {2, 7, 6}, {7, 0, 6}}},
		{call{commit, 2, 0, 0}, api.OK, row{6, 3, 0, 0, 0, 0, 0, 0}, []lot{{1, 1, 1}, {7, 0, 6}}},
		{call{commit, 7, 0, 0}, api.OK, row{0, 3, 0, 0, 0, 0, 0, 0}, []lot{{1, 1, 1}}},
		{call{commit, 1, 0, 0}, api.OK, row{0, 2, 0, 0, 0, 0, 0, 0}, nil},
	} {
		wantNo(t, s.call, s.call.on(b), s.want)
		holdBook(t, s.call, b, s.onHand, s.lots...)
	}
}

// P8.1: the edges: nothing and all there may be, just what is free and one
// more, for the first and the last item, the least and the greatest id; then
// it is committed, or released.
func TestEdges(t *testing.T) {
	for _, c := range []struct {
		has, qty int
		want     api.Errno
	}{
		{0, 1, api.ErrLess}, {0, most, api.ErrLess}, {-5, 1, api.ErrLess},
		{1, 1, api.OK}, {1, 2, api.ErrLess},
		{5, 4, api.OK}, {5, 5, api.OK}, {5, 6, api.ErrLess}, {5, most, api.ErrLess},
		{most - 1, most - 1, api.OK}, {most - 1, most, api.ErrLess},
		{most, 1, api.OK}, {most, most - 1, api.OK}, {most, most, api.OK},
		{math.MaxInt, most, api.OK},
	} {
		for _, id := range []int{1, 2, api.MaxId - 1, api.MaxId} {
			for _, item := range []int{0, 1, items - 2, items - 1} {
				for _, end := range []kind{commit, release} {
					holdEdge(t, c.has, call{reserve, id, item, c.qty}, c.want, end)
				}
			}
		}
	}
}

// holdEdge makes the call where so many of its item are there, and two of each
// other one; then ends it that way.
func holdEdge(t *testing.T, has int, c call, want api.Errno, end kind) {
	t.Helper()
	l := slices.Repeat([]int{2}, items)
	l[c.item] = has
	b, onHand := stock.New(l), row(l)
	onHand[c.item] = min(max(has, 0), most)
	last := call{kind: end, id: c.id}
	what := fmt.Sprintf("of %d: %v", has, c)
	wantNo(t, what, c.on(b), want)
	if want != api.OK {
		holdBook(t, what, b, onHand)
		wantNo(t, fmt.Sprint(what, last), last.on(b), api.ErrNone)
		holdBook(t, fmt.Sprint(what, last), b, onHand)
		return
	}
	holdBook(t, what, b, onHand, lot{c.id, c.item, c.qty})
	wantNo(t, fmt.Sprint(what, last), last.on(b), api.OK)
	if end == commit {
		onHand[c.item] -= c.qty
	}
	holdBook(t, fmt.Sprint(what, last), b, onHand)
}

// P8.1: behind what others reserved just what is free may be reserved, not one
// more; what was released is free again, what was committed is not.
func TestLess(t *testing.T) {
	for _, n := range []int{4, 100, most - 1, most} {
		for _, end := range []kind{commit, release} {
			b := filled(t, row{1, n, n}, lot{7, 1, 1}, lot{8, 1, n - 3}, lot{9, 2, 1})
			for _, qty := range []int{3, 4, n, most} {
				wantNo(t, qty, b.Reserve(1, 1, qty), api.ErrLess)
			}
			holdBook(t, "behind one more", b, row{1, n, n}, lot{7, 1, 1}, lot{8, 1, n - 3}, lot{9, 2, 1})
			wantNo(t, "just what is free", b.Reserve(1, 1, 2), api.OK)
			wantNo(t, "where nothing is", b.Reserve(2, 1, 1), api.ErrLess)
			holdBook(t, "behind just that", b, row{1, n, n}, lot{7, 1, 1}, lot{8, 1, n - 3}, lot{9, 2, 1}, lot{1, 1, 2})
			wantNo(t, "end", call{kind: end, id: 8}.on(b), api.OK)
			if end == commit {
				wantNo(t, "of what is gone", b.Reserve(2, 1, 1), api.ErrLess)
				holdBook(t, "gone", b, row{1, 3, n}, lot{7, 1, 1}, lot{9, 2, 1}, lot{1, 1, 2})
				continue
			}
			wantNo(t, "one more than came back", b.Reserve(2, 1, n-2), api.ErrLess)
			wantNo(t, "what came back", b.Reserve(2, 1, n-3), api.OK)
			holdBook(t, "back", b, row{1, n, n}, lot{7, 1, 1}, lot{9, 2, 1}, lot{1, 1, 2}, lot{2, 1, n - 3})
		}
	}
}

// P8.1: who committed or released may reserve again, of the same item and of
// another one, as often as that comes.
func TestAgain(t *testing.T) {
	onHand := row{20, 20, 5}
	b := filled(t, onHand, lot{8, 2, 2})
	for i := range 12 {
		end, item, qty := commit, i/2%2, 1+i%3
		if i%2 == 1 {
			end = release
		}
		wantNo(t, i, b.Reserve(7, item, qty), api.OK)
		holdBook(t, i, b, onHand, lot{7, item, qty}, lot{8, 2, 2})
		wantNo(t, i, call{kind: end, id: 7}.on(b), api.OK)
		if end == commit {
			onHand[item] -= qty
		}
		holdBook(t, i, b, onHand, lot{8, 2, 2})
		for _, c := range []call{{kind: commit, id: 7}, {kind: release, id: 7}} {
			wantNo(t, c, c.on(b), api.ErrNone)
		}
		holdBook(t, i, b, onHand, lot{8, 2, 2})
	}
}

// P8.1: what is no id, no item, or no amount above 0 is refused, with the
// others right or wrong, whatever else is so: ErrArg comes ahead of ErrTwice
// and ErrLess; and nothing changes.
func TestReserveWrong(t *testing.T) {
	ids := append([]int{1, 2, 7, 999}, noIds...)
	places := append([]int{0, 1, 6, 7}, noItems...)
	counts := append([]int{1, 3, 11, most}, noCounts...)
	for _, c := range []struct {
		what   string
		onHand row
		lots   []lot
	}{
		{"nothing is there", row{}, nil},
		{"all is free", row{most, most, most, most, most, most, most, most}, nil},
		{"some is reserved", row{10, 10, 0, 0, 0, 0, 10, 10}, []lot{{1, 0, 3}, {7, 1, 2}, {999, 7, 1}}},
		{"all is reserved", row{3, 2, 0, 0, 0, 0, 0, 1}, []lot{{1, 0, 3}, {7, 1, 2}, {999, 7, 1}}},
	} {
		b := filled(t, c.onHand, c.lots...)
		for _, id := range ids {
			for _, item := range places {
				for _, qty := range counts {
					if !slices.Contains(noIds, id) && !slices.Contains(noItems, item) && !slices.Contains(noCounts, qty) {
						continue
					}
					wantNo(t, fmt.Sprintf("%s: %v", c.what, call{reserve, id, item, qty}), b.Reserve(id, item, qty), api.ErrArg)
				}
			}
		}
		holdBook(t, c.what, b, c.onHand, c.lots...)
	}
}

// P8.1: who has reserved reserves no more, of that item or another one, be it
// free or not: ErrTwice comes ahead of ErrLess.
func TestTwice(t *testing.T) {
	for _, onHand := range []row{{3}, {4}, {10, 10, 0, 0, 0, 0, 0, 2}, {most, most, most, most, most, most, most, most}} {
		b := filled(t, onHand, lot{7, 0, 3})
		for item := range items {
			for _, qty := range []int{1, 2, 3, 4, 7, 8, 10, 11, most} {
				c := call{reserve, 7, item, qty}
				wantNo(t, c, c.on(b), api.ErrTwice)
			}
		}
		holdBook(t, onHand, b, onHand, lot{7, 0, 3})
	}
}

// P8.1: who has reserved nothing commits nothing and releases nothing, be it an
// id or not.
func TestNone(t *testing.T) {
	onHand := row{10, 5}
	for _, lots := range [][]lot{nil, {{5, 0, 2}}, {{5, 0, 2}, {6, 0, 8}, {4, 1, 5}}} {
		b := filled(t, onHand, lots...)
		for _, id := range append([]int{1, 2, 3, 7, 998, 999}, noIds...) {
			wantNo(t, call{kind: commit, id: id}, b.Commit(id), api.ErrNone)
			wantNo(t, call{kind: release, id: id}, b.Release(id), api.ErrNone)
		}
		holdBook(t, lots, b, onHand, lots...)
	}
}

// P8.1, P8.2: every run of up to four calls by three ids on two items, held
// against a plain book.
func TestRuns(t *testing.T) {
	first := row{3, 0, 0, 0, 0, 0, 0, 2}
	var calls []call
	for _, id := range []int{2, 1, 999} {
		for _, item := range []int{0, 7} {
			for qty := 1; qty <= 2; qty++ {
				calls = append(calls, call{reserve, id, item, qty})
			}
		}
		calls = append(calls, call{kind: commit, id: id}, call{kind: release, id: id})
	}
	runs := [][]call{nil}
	for range 4 {
		var next [][]call
		for _, run := range runs {
			for _, c := range calls {
				next = append(next, append(slices.Clone(run), c))
			}
		}
		runs = next
		for _, run := range runs {
			holdRun(t, first, run)
			if t.Failed() {
				return
			}
		}
	}
}

// holdRun makes the calls on a book and on a plain one.
func holdRun(t *testing.T, first row, run []call) {
	t.Helper()
	b, p := stock.New(first[:]), &plain{first: first}
	for _, c := range run {
		wantNo(t, run, c.on(b), p.do(c))
	}
	holdBook(t, run, b, p.onHand(), p.lots...)
}

// P8.2: over long runs that wear the goods down, of all items and of ids that
// come again, on hand is what there was, less what was committed; no item is
// ever below 0.
func TestLongRuns(t *testing.T) {
	for seed := range 20 {
		first := row{40, 0, 1, most, 25, 9, 100, 13}
		b, p := stock.New(first[:]), &plain{first: first}
		at := seed
		for range 2000 {
			at = (at*1103515245 + 12345) % (1 << 31)
			n := at >> 8
			c := call{kind(n % 3), 1 + n/3%12, n / 36 % items, 1 + n/288%6}
			wantNo(t, c, c.on(b), p.do(c))
			hand, free := p.onHand(), p.free()
			for item := range items {
				if b.OnHand(item) != hand[item] || b.Free(item) != free[item] || b.Free(item) < 0 || b.OnHand(item) < b.Free(item) {
					t.Fatalf("%v: of %d: %d, %d; want %d, %d", c, item, b.OnHand(item), b.Free(item), hand[item], free[item])
				}
			}
		}
		holdBook(t, seed, b, p.onHand(), p.lots...)
		if len(p.sold) == 0 || p.onHand()[0] != 0 && p.onHand()[2] != 0 {
			t.Errorf("run %d wore nothing down: %v", seed, p.onHand())
		}
	}
}

// P8.1, P8.2: all ids there are, in an order that neither rises nor falls.
func TestAllIds(t *testing.T) {
	p := &plain{first: row(slices.Repeat([]int{100000}, items))}
	b := stock.New(p.first[:])
	for i := 1; i <= api.MaxId; i++ {
		id := 377 * i % 1000
		c := call{reserve, id, id % items, id}
		wantNo(t, c, c.on(b), api.OK)
		p.do(c)
	}
	holdBook(t, "all reserved", b, p.first, p.lots...)
	wantNo(t, "twice", b.Reserve(500, 0, 1), api.ErrTwice)
	for i := 1; i <= api.MaxId; i++ {
		c := call{kind: commit, id: 891 * i % 1000}
		if c.id%3 == 0 {
			c.kind = release
		}
		wantNo(t, c, c.on(b), api.OK)
		p.do(c)
	}
	holdBook(t, "at last", b, p.onHand())
}

// R2: books keep to themselves, those of one row too.
func TestBooksApart(t *testing.T) {
	onHand := row{5, 9}
	a, b := filled(t, onHand, lot{1, 0, 2}), filled(t, onHand, lot{1, 1, 4}, lot{2, 0, 5})
	wantNo(t, "commit in one", a.Commit(1), api.OK)
	holdBook(t, "the one", a, row{3, 9})
	holdBook(t, "the other", b, onHand, lot{1, 1, 4}, lot{2, 0, 5})
	wantNo(t, "none in one", a.Release(2), api.ErrNone)
	wantNo(t, "reserve in one", a.Reserve(2, 1, 9), api.OK)
	holdBook(t, "the one, later", a, row{3, 9}, lot{2, 1, 9})
	holdBook(t, "the other, later", b, onHand, lot{1, 1, 4}, lot{2, 0, 5})
}

// P8.1: a nil book tells ErrArg ahead of all else, and zero values.
func TestNil(t *testing.T) {
	var none *stock.Book
	for _, id := range append([]int{1, 7, 999}, noIds...) {
		for _, item := range append([]int{0, 7}, noItems...) {
			for _, qty := range append([]int{1, 5, most}, noCounts...) {
				c := call{reserve, id, item, qty}
				wantNo(t, c, c.on(none), api.ErrArg)
			}
		}
		wantNo(t, call{kind: commit, id: id}, none.Commit(id), api.ErrArg)
		wantNo(t, call{kind: release, id: id}, none.Release(id), api.ErrArg)
	}
	holdBook(t, "nil", none, row{})
}

// R3: a book that New did not make is one of nothing.
func TestZeroBook(t *testing.T) {
	var b stock.Book
	wantNo(t, "Reserve", b.Reserve(1, 0, 1), api.ErrLess)
	wantNo(t, "Reserve of no item", b.Reserve(1, items, 1), api.ErrArg)
	wantNo(t, "Commit", b.Commit(1), api.ErrNone)
	wantNo(t, "Release", b.Release(1), api.ErrNone)
	holdBook(t, "zero", &b, row{})
}
