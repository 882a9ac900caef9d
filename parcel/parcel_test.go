package parcel_test

import (
	"fmt"
	"math"
	"slices"
	"testing"

	"wharfinger/api"
	"wharfinger/parcel"
)

const (
	most  = api.MaxAmount
	items = api.MaxItems
)

// noIds are numbers that are no ids; some of them end in the bits of one.
var noIds = []int{0, -1, -2, -api.MaxId, api.MaxId + 1, most, 1<<32 + 1, -1 << 32, math.MinInt, math.MinInt + 1, math.MaxInt}

// noItems are numbers that are no items; some of them end in the bits of one.
var noItems = []int{-1, -2, -items, items, items + 1, api.MaxId, most, 1 << 32, 1<<32 + 1, -1 << 32, math.MinInt, math.MinInt + 1, math.MaxInt}

// noQtys are numbers that are no amount above 0.
var noQtys = []int{0, -1, -2, -most, most + 1, 2 * most, 1<<32 + 1, -1 << 32, math.MinInt, math.MinInt + 1, math.MaxInt}

// sent is one parcel, or a call that would send it.
type sent struct{ id, item, qty int }

func (s sent) String() string { return fmt.Sprintf("Ship(%d, %d, %d)", s.id, s.item, s.qty) }

func (s sent) on(b *parcel.Book) api.Errno { return b.Ship(s.id, s.item, s.qty) }

// plain is a book that is no more than a list, gone through at each call.
type plain []sent

func (p *plain) ship(s sent) api.Errno {
	if s.id < 1 || s.id > 999 || s.item < 0 || s.item > 7 || s.qty < 1 || s.qty > 1000000000 {
		return api.ErrArg
	}
	if slices.ContainsFunc(*p, func(o sent) bool { return o.id == s.id }) {
		return api.ErrTwice
	}
	*p = append(*p, s)
	return api.OK
}

func wantNo(t *testing.T, what any, got, want api.Errno) {
	t.Helper()
	if got != want {
		t.Errorf("%v: told %d; want %d", what, got, want)
	}
}

// holdBook holds all that is to be seen of a book against the parcels that
// went, in their order.
func holdBook(t *testing.T, what any, b *parcel.Book, want []sent) {
	t.Helper()
	var ids []int
	var sums [items]int
	byId := map[int]sent{}
	for _, s := range want {
		ids = append(ids, s.id)
		sums[s.item] += s.qty
		byId[s.id] = s
	}
	if got := b.Ids(); !slices.Equal(got, ids) {
		t.Errorf("%v: Ids tells %v; want %v", what, got, ids)
	}
	for id := 1; id <= api.MaxId; id++ {
		s, went := byId[id]
		holdHas(t, what, b, id, s, went)
	}
	for _, id := range noIds {
		holdHas(t, what, b, id, sent{}, false)
	}
	for item, sum := range sums {
		if got := b.Went(item); got != sum {
			t.Errorf("%v: Went(%d) tells %d; want %d", what, item, got, sum)
		}
	}
	for _, item := range noItems {
		if got := b.Went(item); got != 0 {
			t.Errorf("%v: Went(%d) tells %d; want 0", what, item, got)
		}
	}
}

func holdHas(t *testing.T, what any, b *parcel.Book, id int, want sent, went bool) {
	t.Helper()
	item, qty, ok := b.Has(id)
	if item != want.item || qty != want.qty || ok != went {
		t.Errorf("%v: Has(%d) tells %d, %d, %t; want %d, %d, %t", what, id, item, qty, ok, want.item, want.qty, went)
	}
}

// filled tells a book in which these went.
func filled(t *testing.T, l ...sent) *parcel.Book {
	t.Helper()
	b := parcel.New()
	for _, s := range l {
		wantNo(t, s, s.on(b), api.OK)
	}
	return b
}

// P10.1: the example of the chapter.
func TestExample(t *testing.T) {
	b := parcel.New()
	wantNo(t, "first", b.Ship(1, 0, 2), api.OK)
	wantNo(t, "second", b.Ship(1, 0, 2), api.ErrTwice)
	holdBook(t, "at last", b, []sent{{1, 0, 2}})
}

// P10.1: nothing went.
func TestNew(t *testing.T) {
	b := parcel.New()
	if b == nil {
		t.Fatal("no book")
	}
	holdBook(t, "new", b, nil)
	if len(b.Ids()) != 0 {
		t.Errorf("Ids tells %v", b.Ids())
	}
}

// P10.1: parcels of several orders and items go, one behind the other; behind
// every call all is told as it went, ids neither rising nor falling.
func TestShip(t *testing.T) {
	l := []sent{{9, 0, 2}, {3, 1, 5}, {500, 0, 7}, {1, 7, 1}, {999, 7, most}, {4, 0, most}, {998, 3, 11}, {2, 7, 6}}
	b := parcel.New()
	for i, s := range l {
		wantNo(t, s, s.on(b), api.OK)
		holdBook(t, s, b, l[:i+1])
	}
	wantWent := [items]int{most + 9, 5, 0, 11, 0, 0, 0, most + 7}
	for item, want := range wantWent {
		if got := b.Went(item); got != want {
			t.Errorf("Went(%d) tells %d; want %d", item, got, want)
		}
	}
	if got := b.Ids(); !slices.Equal(got, []int{9, 3, 500, 1, 999, 4, 998, 2}) {
		t.Errorf("Ids tells %v", got)
	}
}

// P10.1: the first and the last id and item, the least and the greatest
// number, each with each.
func TestEdges(t *testing.T) {
	for _, id := range []int{1, 2, 998, 999} {
		for _, item := range []int{0, 1, 6, 7} {
			for _, qty := range []int{1, 2, 999999999, 1000000000} {
				s := sent{id, item, qty}
				holdBook(t, s, filled(t, s), []sent{s})
			}
		}
	}
}

// P10.1, P10.2: an order whose parcel went gets no other one, of the same item
// and number or of others, behind others or not; what went stays what it was,
// and stands where it stood.
func TestTwice(t *testing.T) {
	l := []sent{{9, 0, 2}, {1, 7, 5}, {999, 7, most}}
	b := parcel.New()
	for i := range l {
		wantNo(t, l[i], l[i].on(b), api.OK)
		for _, s := range l[:i+1] {
			for item := range items {
				for _, qty := range []int{1, 2, 5, 6, most - 1, most} {
					again := sent{s.id, item, qty}
					wantNo(t, again, again.on(b), api.ErrTwice)
				}
			}
			holdBook(t, s, b, l[:i+1])
		}
	}
	wantNo(t, "another one", b.Ship(2, 0, 1), api.OK)
	holdBook(t, "another one", b, append(l, sent{2, 0, 1}))
}

// P10.1: what is no id, no item, or no amount above 0 is refused, with the
// others right or wrong, also where the parcel of that id went: ErrArg comes
// ahead of ErrTwice; and nothing changes.
func TestShipWrong(t *testing.T) {
	ids := append([]int{1, 2, 7, 999}, noIds...)
	places := append([]int{0, 1, 6, 7}, noItems...)
	qtys := append([]int{1, 3, most}, noQtys...)
	for _, l := range [][]sent{nil, {{7, 1, 3}}, {{999, 7, most}, {1, 0, 1}, {7, 6, 3}}} {
		b := filled(t, l...)
		for _, id := range ids {
			for _, item := range places {
				for _, qty := range qtys {
					if !slices.Contains(noIds, id) && !slices.Contains(noItems, item) && !slices.Contains(noQtys, qty) {
						continue
					}
					s := sent{id, item, qty}
					wantNo(t, s, s.on(b), api.ErrArg)
				}
			}
		}
		holdBook(t, l, b, l)
		wantNo(t, "behind all that", b.Ship(2, 0, 1), api.OK)
		holdBook(t, "behind all that", b, append(slices.Clone(l), sent{2, 0, 1}))
	}
}

// P10.1: which answer comes, where one cause or both are there.
func TestArgAheadOfTwice(t *testing.T) {
	b := filled(t, sent{9, 0, 2})
	for _, c := range []struct {
		call sent
		want api.Errno
	}{
		{sent{9, 0, 2}, api.ErrTwice}, {sent{9, 7, most}, api.ErrTwice},
		{sent{9, 8, 2}, api.ErrArg}, {sent{9, -1, 2}, api.ErrArg},
		{sent{9, 0, 0}, api.ErrArg}, {sent{9, 0, -2}, api.ErrArg}, {sent{9, 0, most + 1}, api.ErrArg},
		{sent{0, 0, 2}, api.ErrArg}, {sent{-9, 0, 2}, api.ErrArg}, {sent{1000, 0, 2}, api.ErrArg},
		{sent{9 + 1<<32, 0, 2}, api.ErrArg}, {sent{9, 1 << 32, 2}, api.ErrArg}, {sent{9, 0, 1<<32 + 2}, api.ErrArg},
	} {
		wantNo(t, c.call, c.call.on(b), c.want)
		holdBook(t, c.call, b, []sent{{9, 0, 2}})
	}
}

// P10.1, P10.2: all ids that there are, in an order that neither rises nor
// falls, each with as many of one item as may be; the sum does not go round.
func TestAllIds(t *testing.T) {
	for _, item := range []int{0, 5, 7} {
		b := parcel.New()
		var l []sent
		for i := 1; i <= api.MaxId; i++ {
			s := sent{377 * i % 1000, item, most}
			wantNo(t, s, s.on(b), api.OK)
			l = append(l, s)
		}
		holdBook(t, item, b, l)
		if got := b.Went(item); got != 999000000000 {
			t.Errorf("Went(%d) tells %d", item, got)
		}
		for id := 1; id <= api.MaxId; id++ {
			wantNo(t, id, b.Ship(id, items-1-item, 1), api.ErrTwice)
		}
		holdBook(t, item, b, l)
	}
}

// P10.1, P10.2: every run of up to four calls by three ids, right ones and
// wrong ones, held against a plain list.
func TestRuns(t *testing.T) {
	calls := []sent{{0, 0, 1}, {2, 8, 1}, {1, 7, 0}}
	for _, id := range []int{2, 1, 999} {
		calls = append(calls, sent{id, 0, 1}, sent{id, 7, most})
	}
	told := map[api.Errno]int{}
	runs := [][]sent{nil}
	for range 4 {
		var next [][]sent
		for _, run := range runs {
			for _, c := range calls {
				next = append(next, append(slices.Clone(run), c))
			}
		}
		runs = next
		for _, run := range runs {
			holdRun(t, run, told)
			if t.Failed() {
				return
			}
		}
	}
	wantTold(t, told)
}

// holdRun makes the calls on a book and on a plain list; told counts what they
// were told.
func holdRun(t *testing.T, run []sent, told map[api.Errno]int) {
	t.Helper()
	b := parcel.New()
	var p plain
	for _, c := range run {
		want := p.ship(c)
		wantNo(t, run, c.on(b), want)
		told[want]++
	}
	holdBook(t, run, b, p)
}

// wantTold holds that runs came by all that Ship may tell.
func wantTold(t *testing.T, told map[api.Errno]int) {
	t.Helper()
	for _, e := range []api.Errno{api.OK, api.ErrArg, api.ErrTwice} {
		if told[e] == 0 {
			t.Errorf("no call was told %d", e)
		}
	}
}

// P10.1, P10.2: over long runs, with ids that come again, each order has one
// parcel at most, and what went of an item is the sum of what orders have.
func TestLongRuns(t *testing.T) {
	told := map[api.Errno]int{}
	for seed := range 10 {
		b := parcel.New()
		var p plain
		next := seed
		for range 600 {
			next = (next*1103515245 + 12345) % (1 << 31)
			n := next >> 8
			c := sent{n % 400, n / 400 % (items + 1), n / 3600 % 50}
			want := p.ship(c)
			wantNo(t, c, c.on(b), want)
			told[want]++
			holdOnce(t, c, b)
		}
		holdBook(t, seed, b, p)
		if t.Failed() {
			return
		}
	}
	wantTold(t, told)
}

// holdOnce holds that no order stands twice in a book, and that what went is
// just what the orders that stand in it have.
func holdOnce(t *testing.T, what any, b *parcel.Book) {
	t.Helper()
	seen := map[int]bool{}
	var sums [items]int
	for _, id := range b.Ids() {
		item, qty, ok := b.Has(id)
		if !ok || seen[id] {
			t.Fatalf("%v: %d: %t, seen %t", what, id, ok, seen[id])
		}
		seen[id] = true
		sums[item] += qty
	}
	for item, sum := range sums {
		if got := b.Went(item); got != sum {
			t.Fatalf("%v: Went(%d) tells %d; want %d", what, item, got, sum)
		}
	}
}

// R2: the row that Ids tells is the caller's own: what is written into it or
// behind it is not seen in the book or in another row, nor what goes later in it.
func TestIdsMemory(t *testing.T) {
	l := []sent{{9, 0, 2}, {1, 7, 5}, {999, 7, most}}
	b := filled(t, l...)
	one, other := b.Ids(), b.Ids()
	for i := range one {
		one[i] = 5
	}
	_ = append(one[:1], 77, 78, 79, 80, 81)
	if !slices.Equal(other, []int{9, 1, 999}) {
		t.Errorf("another row is %v", other)
	}
	holdBook(t, "behind a change", b, l)
	wantNo(t, "5", b.Ship(5, 2, 3), api.OK)
	l = append(l, sent{5, 2, 3})
	if !slices.Equal(other, []int{9, 1, 999}) || len(other) < cap(other) && slices.Contains(other[:cap(other)], 5) {
		t.Errorf("a row told ahead is %v", other[:cap(other)])
	}
	_ = append(other, 42)
	holdBook(t, "behind one more", b, l)
	wantNo(t, "6", b.Ship(6, 2, 3), api.OK)
	holdBook(t, "behind two more", b, append(l, sent{6, 2, 3}))
}

// R6: asking changes nothing.
func TestAsking(t *testing.T) {
	b := parcel.New()
	for _, id := range append([]int{1, 7, 999}, noIds...) {
		b.Has(id)
	}
	for _, item := range append([]int{0, 7}, noItems...) {
		b.Went(item)
	}
	holdBook(t, "asked", b, nil)
	wantNo(t, "behind that", b.Ship(7, 7, 1), api.OK)
	holdBook(t, "behind that", b, []sent{{7, 7, 1}})
}

// R2: books keep to themselves.
func TestBooksApart(t *testing.T) {
	a, b := parcel.New(), parcel.New()
	wantNo(t, "in one", a.Ship(1, 0, 2), api.OK)
	holdBook(t, "the other, of nothing", b, nil)
	wantNo(t, "in the other", b.Ship(2, 1, 4), api.OK)
	wantNo(t, "in the other", b.Ship(1, 0, 5), api.OK)
	wantNo(t, "in one again", a.Ship(1, 1, 1), api.ErrTwice)
	holdBook(t, "the one", a, []sent{{1, 0, 2}})
	holdBook(t, "the other", b, []sent{{2, 1, 4}, {1, 0, 5}})
	wantNo(t, "in one", a.Ship(2, 7, 9), api.OK)
	holdBook(t, "the one, later", a, []sent{{1, 0, 2}, {2, 7, 9}})
	holdBook(t, "the other, later", b, []sent{{2, 1, 4}, {1, 0, 5}})
}

// P10.1: a nil book tells ErrArg, and zero values.
func TestNil(t *testing.T) {
	var none *parcel.Book
	for _, id := range append([]int{1, 7, 999}, noIds...) {
		for _, item := range append([]int{0, 7}, noItems...) {
			for _, qty := range append([]int{1, 5, most}, noQtys...) {
				s := sent{id, item, qty}
				wantNo(t, s, s.on(none), api.ErrArg)
			}
		}
	}
	holdBook(t, "nil", none, nil)
	if none.Ids() != nil {
		t.Errorf("Ids tells %v", none.Ids())
	}
}

// R3: a book that New did not make is one in which nothing went; it does not
// panic when something goes.
func TestZeroBook(t *testing.T) {
	var b parcel.Book
	holdBook(t, "zero", &b, nil)
	wantNo(t, "no item", b.Ship(1, items, 1), api.ErrArg)
	wantNo(t, "one", b.Ship(1, 0, 1), api.OK)
	wantNo(t, "one more", b.Ship(1, 0, 1), api.ErrTwice)
	holdBook(t, "no more zero", &b, []sent{{1, 0, 1}})
}
