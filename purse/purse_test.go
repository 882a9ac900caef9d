package purse_test

import (
	"fmt"
	"math"
	"slices"
	"testing"

	"wharfinger/api"
	"wharfinger/purse"
)

const (
	most    = api.MaxAmount
	clients = api.MaxItems
)

// noIds are numbers that are no ids; some of them end in the bits of one.
var noIds = []int{0, -1, -2, -api.MaxId, api.MaxId + 1, most, 1<<32 + 1, -1 << 32, math.MinInt, math.MinInt + 1, math.MaxInt}

// noClients are numbers that are no clients; some of them end in the bits of one.
var noClients = []int{-1, -2, -clients, clients, clients + 1, api.MaxId, most, 1 << 32, 1<<32 + 1, -1 << 32, math.MinInt, math.MinInt + 1, math.MaxInt}

// noPrices are numbers that are no amount above 0.
var noPrices = []int{0, -1, -2, -most, most + 1, 2 * most, 1<<32 + 1, -1 << 32, math.MinInt, math.MinInt + 1, math.MaxInt}

// row is how much each client has.
type row [clients]int

// deal is what is allowed for one order, or what it has paid.
type deal struct{ id, client, price int }

// kind is which of the calls is made.
type kind int

const (
	allow kind = iota
	capture
	void
)

// call is one of them; client and price are those of Allow.
type call struct {
	kind              kind
	id, client, price int
}

func (c call) String() string {
	switch c.kind {
	case capture:
		return fmt.Sprintf("Capture(%d)", c.id)
	case void:
		return fmt.Sprintf("Void(%d)", c.id)
	}
	return fmt.Sprintf("Allow(%d, %d, %d)", c.id, c.client, c.price)
}

func (c call) on(b *purse.Book) api.Errno {
	switch c.kind {
	case capture:
		return b.Capture(c.id)
	case void:
		return b.Void(c.id)
	}
	return b.Allow(c.id, c.client, c.price)
}

// plain is a book that moves money by hand, call by call.
type plain struct {
	money   row
	kept    row // of money: what is allowed
	till    int
	open    int // of all clients: what is allowed
	allowed []deal
	paid    []deal
}

func at(deals []deal, id int) int {
	return slices.IndexFunc(deals, func(d deal) bool { return d.id == id })
}

func (p *plain) do(c call) api.Errno {
	if c.kind == allow {
		return p.allow(deal{c.id, c.client, c.price})
	}
	i := at(p.allowed, c.id)
	if i < 0 {
		return api.ErrNone
	}
	d := p.allowed[i]
	p.allowed = slices.Delete(p.allowed, i, i+1)
	p.kept[d.client] -= d.price
	p.open -= d.price
	if c.kind == capture {
		p.money[d.client] -= d.price
		p.till += d.price
		p.paid = append(p.paid, d)
	}
	return api.OK
}

func (p *plain) allow(d deal) api.Errno {
	switch {
	case d.id < 1 || d.id > 999 || d.client < 0 || d.client > 7 || d.price < 1 || d.price > 1000000000:
		return api.ErrArg
	case at(p.allowed, d.id) >= 0 || at(p.paid, d.id) >= 0:
		return api.ErrTwice
	case p.money[d.client]-p.kept[d.client] < d.price:
		return api.ErrLess
	case p.till+p.open+d.price > 1000000000:
		return api.ErrOver
	}
	p.kept[d.client] += d.price
	p.open += d.price
	p.allowed = append(p.allowed, d)
	return api.OK
}

// state is all that is to be seen of a book: what each client has, what is
// allowed, and what was paid (the till is the sum of that).
type state struct {
	money   row
	allowed []deal
	paid    []deal
}

func (p *plain) state() state { return state{p.money, p.allowed, p.paid} }

func perClient(deals []deal) row {
	var sums row
	for _, d := range deals {
		sums[d.client] += d.price
	}
	return sums
}

func all(l row) int {
	sum := 0
	for _, n := range l {
		sum += n
	}
	return sum
}

func holdBook(t *testing.T, what any, b *purse.Book, want state) {
	t.Helper()
	allowed := perClient(want.allowed)
	for client := range clients {
		if got := b.Money(client); got != want.money[client] {
			t.Errorf("%v: %d has %d; want %d", what, client, got, want.money[client])
		}
		if got := b.Allowed(client); got != allowed[client] {
			t.Errorf("%v: of %d's %d is allowed; want %d", what, client, got, allowed[client])
		}
	}
	for _, client := range noClients {
		if money, got := b.Money(client), b.Allowed(client); money != 0 || got != 0 {
			t.Errorf("%v: no client %d has %d, of which %d is allowed", what, client, money, got)
		}
	}
	if till := all(perClient(want.paid)); b.Till() != till {
		t.Errorf("%v: the till has %d; want %d", what, b.Till(), till)
	}
	holdPaid(t, what, b, want.paid)
}

// holdPaid holds what each order has paid, also those that have not.
func holdPaid(t *testing.T, what any, b *purse.Book, paid []deal) {
	t.Helper()
	for _, d := range paid {
		if n, ok := b.Paid(d.id); n != d.price || !ok {
			t.Errorf("%v: Paid(%d) = %d, %v; want %d", what, d.id, n, ok, d.price)
		}
	}
	for _, id := range append([]int{1, 2, 3, 7, 8, 9, api.MaxId - 1, api.MaxId}, noIds...) {
		if at(paid, id) >= 0 {
			continue
		}
		if n, ok := b.Paid(id); n != 0 || ok {
			t.Errorf("%v: Paid(%d) = %d, %v; want none", what, id, n, ok)
		}
	}
}

// holdTogether holds all money together against what there was.
func holdTogether(t *testing.T, what any, b *purse.Book, first row) {
	t.Helper()
	sum := b.Till()
	for client := range clients {
		sum += b.Money(client)
	}
	if sum != all(first) {
		t.Errorf("%v: all together %d; want %d", what, sum, all(first))
	}
}

func wantNo(t *testing.T, what any, got, want api.Errno) {
	t.Helper()
	if got != want {
		t.Errorf("%v = %d; want %d", what, got, want)
	}
}

// filled is a book in which clients have so much at first, and then those
// deals were paid and these are allowed.
func filled(t *testing.T, money row, paid []deal, allowed ...deal) *purse.Book {
	t.Helper()
	b := purse.New(money[:])
	for _, d := range paid {
		wantNo(t, d, b.Allow(d.id, d.client, d.price), api.OK)
		wantNo(t, d, b.Capture(d.id), api.OK)
	}
	for _, d := range allowed {
		wantNo(t, d, b.Allow(d.id, d.client, d.price), api.OK)
	}
	return b
}

// P9.1: client i has l[i], cut to an amount; whom l has not: 0; what lies
// behind the last client is nobody's. The till has nothing.
func TestNew(t *testing.T) {
	for _, c := range []struct {
		l    []int
		want row
	}{
		{nil, row{}},
		{[]int{}, row{}},
		{[]int{5}, row{5}},
		{[]int{0}, row{}},
		{[]int{most}, row{most}},
		{[]int{1, 2, 3}, row{1, 2, 3}},
		{[]int{0, 0, 0, 0, 0, 0, 0}, row{}},
		{[]int{1, 2, 3, 4, 5, 6, 7}, row{1, 2, 3, 4, 5, 6, 7}},
		{[]int{1, 2, 3, 4, 5, 6, 7, 8}, row{1, 2, 3, 4, 5, 6, 7, 8}},
		{[]int{1, 2, 3, 4, 5, 6, 7, 8, 9}, row{1, 2, 3, 4, 5, 6, 7, 8}},
		{slices.Repeat([]int{6}, 1000), row{6, 6, 6, 6, 6, 6, 6, 6}},
		{slices.Repeat([]int{most}, clients), row{most, most, most, most, most, most, most, most}},
		{[]int{-1, most + 1, -5, 2 * most, 3, math.MinInt, math.MaxInt, -1}, row{0, most, 0, most, 3, 0, most, 0}},
		{[]int{-most, 1 << 32, -1 << 32, 0, most - 1, -2, 1, math.MaxInt, math.MaxInt}, row{0, most, 0, 0, most - 1, 0, 1, most}},
	} {
		holdBook(t, fmt.Sprintf("New of %d, %v", len(c.l), c.l[:min(len(c.l), 10)]), purse.New(c.l), state{money: c.want})
	}
}

// R2: the row stays the caller's: New neither changes nor keeps it, and what
// lies behind its length is not read.
func TestNewLeavesRow(t *testing.T) {
	whole := []int{4, -5, most + 1, 77, 88}
	b := purse.New(whole[:3])
	if !slices.Equal(whole, []int{4, -5, most + 1, 77, 88}) {
		t.Errorf("the row is %v", whole)
	}
	holdBook(t, "at first", b, state{money: row{4, 0, most}})
	for i := range whole {
		whole[i] = 99
	}
	holdBook(t, "behind a change of the row", b, state{money: row{4, 0, most}})
	wantNo(t, "Allow", b.Allow(1, 0, 3), api.OK)
	wantNo(t, "Capture", b.Capture(1), api.OK)
	holdBook(t, "behind calls", b, state{row{1, 0, most}, nil, []deal{{1, 0, 3}}})
	if !slices.Equal(whole, []int{99, 99, 99, 99, 99}) {
		t.Errorf("behind calls the row is %v", whole)
	}
}

// P9.1: the chapter's example.
func TestExample(t *testing.T) {
	b := purse.New([]int{5})
	wantNo(t, "Allow(1, 0, 4)", b.Allow(1, 0, 4), api.OK)
	wantNo(t, "Allow(2, 0, 2)", b.Allow(2, 0, 2), api.ErrLess)
	holdBook(t, "behind both", b, state{money: row{5}, allowed: []deal{{1, 0, 4}}})
}

// P9.1, P9.2: some are allowed, some captured, some voided, of several
// clients, one behind the other.
func TestOrders(t *testing.T) {
	first := row{10, 3, 0, 50, 0, 0, 0, 6}
	b := purse.New(first[:])
	for _, s := range []struct {
		call call
		want api.Errno
		then state
	}{
		{call{allow, 7, 0, 4}, api.OK, state{first, []deal{{7, 0, 4}}, nil}},
		{call{allow, 3, 7, 5}, api.OK, state{first, []deal{{7, 0, 4}, {3, 7, 5}}, nil}},
		{call{allow, 999, 0, 6}, api.OK, state{first, []deal{{7, 0, 4}, {3, 7, 5}, {999, 0, 6}}, nil}},
		{call{allow, 1, 0, 1}, api.ErrLess, state{first, []deal{{7, 0, 4}, {3, 7, 5}, {999, 0, 6}}, nil}},
		{call{allow, 1, 1, 1}, api.OK, state{first, []deal{{7, 0, 4}, {3, 7, 5}, {999, 0, 6}, {1, 1, 1}}, nil}},
		{call{kind: capture, id: 7}, api.OK, state{row{6, 3, 0, 50, 0, 0, 0, 6}, []deal{{3, 7, 5}, {999, 0, 6}, {1, 1, 1}}, []deal{{7, 0, 4}}}},
		{call{kind: capture, id: 7}, api.ErrNone, state{row{6, 3, 0, 50, 0, 0, 0, 6}, []deal{{3, 7, 5}, {999, 0, 6}, {1, 1, 1}}, []deal{{7, 0, 4}}}},
		{call{kind: void, id: 7}, api.ErrNone, state{row{6, 3, 0, 50, 0, 0, 0, 6}, []deal{{3, 7, 5}, {999, 0, 6}, {1, 1, 1}}, []deal{{7, 0, 4}}}},
		{call{kind: void, id: 3}, api.OK, state{row{6, 3, 0, 50, 0, 0, 0, 6}, []deal{{999, 0, 6}, {1, 1, 1}}, []deal{{7, 0, 4}}}},
		{call{kind: void, id: 3}, api.ErrNone, state{row{6, 3, 0, 50, 0, 0, 0, 6}, []deal{{999, 0, 6}, {1, 1, 1}}, []deal{{7, 0, 4}}}},
		{call{kind: capture, id: 3}, api.ErrNone, state{row{6, 3, 0, 50, 0, 0, 0, 6}, []deal{{999, 0, 6}, {1, 1, 1}}, []deal{{7, 0, 4}}}},
		{call{allow, 3, 3, 50}, api.OK, state{row{6, 3, 0, 50, 0, 0, 0, 6}, []deal{{999, 0, 6}, {1, 1, 1}, {3, 3, 50}}, []deal{{7, 0, 4}}}},
		{call{allow, 2, 7, 6}, api.OK, state{row{6, 3, 0, 50, 0, 0, 0, 6}, []deal{{999, 0, 6}, {1, 1, 1}, {3, 3, 50}, {2, 7, 6}}, []deal{{7, 0, 4}}}},
		{call{kind: capture, id: 3}, api.OK, state{row{6, 3, 0, 0, 0, 0, 0, 6}, []deal{{999, 0, 6}, {1, 1, 1}, {2, 7, 6}}, []deal{{7, 0, 4}, {3, 3, 50}}}},
		{call{allow, 9, 3, 1}, api.ErrLess, state{row{6, 3, 0, 0, 0, 0, 0, 6}, []deal{{999, 0, 6}, {1, 1, 1}, {2, 7, 6}}, []deal{{7, 0, 4}, {3, 3, 50}}}},
		{call{kind: void, id: 999}, api.OK, state{row{6, 3, 0, 0, 0, 0, 0, 6}, []deal{{1, 1, 1}, {2, 7, 6}}, []deal{{7, 0, 4}, {3, 3, 50}}}},
		{call{allow, 7, 0, 6}, api.ErrTwice, state{row{6, 3, 0, 0, 0, 0, 0, 6}, []deal{{1, 1, 1}, {2, 7, 6}}, []deal{{7, 0, 4}, {3, 3, 50}}}},
		{call{allow, 8, 0, 6}, api.OK, state{row{6, 3, 0, 0, 0, 0, 0, 6}, []deal{{1, 1, 1}, {2, 7, 6}, {8, 0, 6}}, []deal{{7, 0, 4}, {3, 3, 50}}}},
		{call{kind: capture, id: 2}, api.OK, state{row{6, 3}, []deal{{1, 1, 1}, {8, 0, 6}}, []deal{{7, 0, 4}, {3, 3, 50}, {2, 7, 6}}}},
		{call{kind: capture, id: 8}, api.OK, state{row{0, 3}, []deal{{1, 1, 1}}, []deal{{7, 0, 4}, {3, 3, 50}, {2, 7, 6}, {8, 0, 6}}}},
		{call{kind: capture, id: 1}, api.OK, state{row{0, 2}, nil, []deal{{7, 0, 4}, {3, 3, 50}, {2, 7, 6}, {8, 0, 6}, {1, 1, 1}}}},
	} {
		wantNo(t, s.call, s.call.on(b), s.want)
		holdBook(t, s.call, b, s.then)
		holdTogether(t, s.call, b, first)
	}
	if b.Till() != 67 {
		t.Errorf("at last the till has %d", b.Till())
	}
}

// P9.1: the edges: a client with nothing and with all there may be, just what
// is there and one more, of the first and the last client, for the least and
// the greatest id; then it is captured, or voided.
func TestEdges(t *testing.T) {
	for _, c := range []struct {
		has, price int
		want       api.Errno
	}{
		{0, 1, api.ErrLess}, {0, most, api.ErrLess}, {-5, 1, api.ErrLess},
		{1, 1, api.OK}, {1, 2, api.ErrLess},
		{5, 4, api.OK}, {5, 5, api.OK}, {5, 6, api.ErrLess}, {5, most, api.ErrLess},
		{most - 1, most - 1, api.OK}, {most - 1, most, api.ErrLess},
		{most, 1, api.OK}, {most, most - 1, api.OK}, {most, most, api.OK},
		{math.MaxInt, most, api.OK},
	} {
		for _, id := range []int{1, 2, api.MaxId - 1, api.MaxId} {
			for _, client := range []int{0, 1, clients - 2, clients - 1} {
				for _, end := range []kind{capture, void} {
					holdEdge(t, c.has, call{allow, id, client, c.price}, c.want, end)
				}
			}
		}
	}
}

// holdEdge makes the call where its client has so much, and each other one
// two; then ends it that way.
func holdEdge(t *testing.T, has int, c call, want api.Errno, end kind) {
	t.Helper()
	l := slices.Repeat([]int{2}, clients)
	l[c.client] = has
	b, then := purse.New(l), state{money: row(l)}
	then.money[c.client] = min(max(has, 0), most)
	last := call{kind: end, id: c.id}
	what := fmt.Sprintf("of %d: %v", has, c)
	wantNo(t, what, c.on(b), want)
	if want != api.OK {
		holdBook(t, what, b, then)
		wantNo(t, fmt.Sprint(what, last), last.on(b), api.ErrNone)
		holdBook(t, fmt.Sprint(what, last), b, then)
		return
	}
	then.allowed = []deal{{c.id, c.client, c.price}}
	holdBook(t, what, b, then)
	wantNo(t, fmt.Sprint(what, last), last.on(b), api.OK)
	if end == capture {
		then.money[c.client] -= c.price
		then.paid = then.allowed
	}
	then.allowed = nil
	holdBook(t, fmt.Sprint(what, last), b, then)
}

// P9.1: just what a client has less what is allowed may be allowed, not one
// more, whatever others have; what was voided is there again, what was
// captured is not.
func TestLess(t *testing.T) {
	for _, n := range []int{4, 100, most - 2, most - 1} {
		for _, end := range []kind{capture, void} {
			money := row{1, n, n}
			b := filled(t, money, nil, deal{7, 1, 1}, deal{8, 1, n - 3}, deal{9, 2, 1})
			for _, price := range []int{3, 4, n, most} {
				wantNo(t, price, b.Allow(1, 1, price), api.ErrLess)
			}
			holdBook(t, "behind one more", b, state{money, []deal{{7, 1, 1}, {8, 1, n - 3}, {9, 2, 1}}, nil})
			wantNo(t, "just what is there", b.Allow(1, 1, 2), api.OK)
			wantNo(t, "where nothing is", b.Allow(2, 1, 1), api.ErrLess)
			holdBook(t, "behind just that", b, state{money, []deal{{7, 1, 1}, {8, 1, n - 3}, {9, 2, 1}, {1, 1, 2}}, nil})
			wantNo(t, "end", call{kind: end, id: 8}.on(b), api.OK)
			if end == capture {
				wantNo(t, "of what is gone", b.Allow(2, 1, 1), api.ErrLess)
				holdBook(t, "gone", b, state{row{1, 3, n}, []deal{{7, 1, 1}, {9, 2, 1}, {1, 1, 2}}, []deal{{8, 1, n - 3}}})
				continue
			}
			wantNo(t, "one more than came back", b.Allow(2, 1, n-2), api.ErrLess)
			wantNo(t, "what came back", b.Allow(2, 1, n-3), api.OK)
			holdBook(t, "back", b, state{money, []deal{{7, 1, 1}, {9, 2, 1}, {1, 1, 2}, {2, 1, n - 3}}, nil})
		}
	}
}

// P9.1: the till, all that is allowed, and price may be just MaxAmount
// together, not one more, whoever paid it and of whomever it is allowed.
func TestOver(t *testing.T) {
	for _, c := range []struct {
		what    string
		paid    []deal
		allowed []deal
		room    int
	}{
		{"nothing yet", nil, nil, most},
		{"one allowed", nil, []deal{{7, 0, 10}}, most - 10},
		{"one paid", []deal{{7, 0, 10}}, nil, most - 10},
		{"one client's, paid and allowed", []deal{{7, 0, 10}}, []deal{{8, 0, 30}}, most - 40},
		{"several clients', allowed", nil, []deal{{7, 0, 1}, {8, 1, 2}, {9, 2, most/2 + 3}, {999, 7, 4}}, most - most/2 - 10},
		{"several clients', paid", []deal{{7, 0, 1}, {8, 1, 2}, {9, 2, most/2 + 3}, {999, 7, 4}}, nil, most - most/2 - 10},
		{"several clients', both", []deal{{7, 0, 1}, {8, 2, most / 2}}, []deal{{9, 2, 3}, {999, 7, most/2 - 5}}, 1},
		{"all but one, paid", []deal{{7, 0, most - 1}}, nil, 1},
		{"all but one, allowed", nil, []deal{{7, 0, most - 1}}, 1},
		{"all, paid", []deal{{7, 0, most}}, nil, 0},
		{"all, allowed", nil, []deal{{7, 0, most}}, 0},
		{"all, both", []deal{{7, 0, most / 2}}, []deal{{8, 1, most / 2}}, 0},
	} {
		first := row{most, most, most, most, most, most, most, most}
		b := filled(t, first, c.paid, c.allowed...)
		then := state{first, c.allowed, c.paid}
		for client, n := range perClient(c.paid) {
			then.money[client] -= n
		}
		if c.room < most {
			wantNo(t, c.what+": one more", b.Allow(1, 5, c.room+1), api.ErrOver)
			wantNo(t, c.what+": all one has", b.Allow(1, 5, most), api.ErrOver)
			holdBook(t, c.what+": behind one more", b, then)
		}
		if c.room > 0 {
			wantNo(t, c.what+": just that", b.Allow(1, 5, c.room), api.OK)
			then.allowed = append(slices.Clone(then.allowed), deal{1, 5, c.room})
		}
		holdBook(t, c.what+": behind just that", b, then)
		for _, client := range []int{3, 4, 6} {
			wantNo(t, c.what+": no room", b.Allow(2, client, 1), api.ErrOver)
		}
		holdBook(t, c.what+": full", b, then)
	}
}

// P9.1: what is voided makes room, what is captured does not; so that what was
// allowed always finds room in the till.
func TestOverThenEnd(t *testing.T) {
	first := row{most, most, most}
	b := filled(t, first, nil, deal{7, 0, 40}, deal{8, 1, most - 40})
	wantNo(t, "no room", b.Allow(1, 2, 1), api.ErrOver)
	wantNo(t, "Capture", b.Capture(8), api.OK)
	wantNo(t, "no room behind Capture", b.Allow(1, 2, 1), api.ErrOver)
	wantNo(t, "Void", b.Void(7), api.OK)
	wantNo(t, "one more than came back", b.Allow(1, 2, 41), api.ErrOver)
	wantNo(t, "what came back", b.Allow(1, 2, 40), api.OK)
	wantNo(t, "no room again", b.Allow(2, 0, 1), api.ErrOver)
	wantNo(t, "Capture of the last", b.Capture(1), api.OK)
	holdBook(t, "a full till", b, state{row{most, 40, most - 40}, nil, []deal{{8, 1, most - 40}, {1, 2, 40}}})
	if b.Till() != most {
		t.Errorf("the till has %d", b.Till())
	}
	for client := range 3 {
		wantNo(t, "a full till", b.Allow(2, client, 1), api.ErrOver)
	}
	holdTogether(t, "a full till", b, first)
}

// P9.1: an id that was voided is allowed again, of the same client and of
// another one, at this price or another, as often as that comes.
func TestAgain(t *testing.T) {
	money := row{20, 20, 5}
	b := filled(t, money, nil, deal{8, 2, 2})
	for i := range 12 {
		client, price := i/2%2, 1+i%3
		wantNo(t, i, b.Allow(7, client, price), api.OK)
		holdBook(t, i, b, state{money, []deal{{7, client, price}, {8, 2, 2}}, nil})
		wantNo(t, i, b.Void(7), api.OK)
		for _, c := range []call{{kind: capture, id: 7}, {kind: void, id: 7}} {
			wantNo(t, c, c.on(b), api.ErrNone)
		}
		holdBook(t, i, b, state{money, []deal{{8, 2, 2}}, nil})
	}
	wantNo(t, "at last", b.Allow(7, 1, 9), api.OK)
	wantNo(t, "at last", b.Capture(7), api.OK)
	holdBook(t, "at last", b, state{row{20, 11, 5}, []deal{{8, 2, 2}}, []deal{{7, 1, 9}}})
}

// P9.1: what is no id, no client, or no amount above 0 is refused, with the
// others right or wrong, whatever else is so: ErrArg comes ahead of ErrTwice,
// ErrLess and ErrOver; and nothing changes.
func TestAllowWrong(t *testing.T) {
	ids := append([]int{1, 2, 7, 999}, noIds...)
	places := append([]int{0, 1, 6, 7}, noClients...)
	prices := append([]int{1, 3, 11, most}, noPrices...)
	for _, c := range []struct {
		what    string
		first   row
		paid    []deal
		allowed []deal
		money   row
	}{
		{"nothing is there", row{}, nil, nil, row{}},
		{"all is there", row{most, most, most, most, most, most, most, most}, nil, nil, row{most, most, most, most, most, most, most, most}},
		{"some is allowed, some paid", row{10, 10, 0, 0, 0, 0, 10, 10}, []deal{{1, 0, 3}}, []deal{{7, 1, 2}, {999, 7, 1}}, row{7, 10, 0, 0, 0, 0, 10, 10}},
		{"all is allowed or paid", row{3, 2, 0, 0, 0, 0, 0, 1}, []deal{{1, 0, 3}}, []deal{{7, 1, 2}, {999, 7, 1}}, row{0, 2, 0, 0, 0, 0, 0, 1}},
		{"no room in the till", row{most, most}, []deal{{1, 0, most - 2}}, []deal{{7, 1, 2}}, row{2, most}},
	} {
		b := filled(t, c.first, c.paid, c.allowed...)
		for _, id := range ids {
			for _, client := range places {
				for _, price := range prices {
					if !slices.Contains(noIds, id) && !slices.Contains(noClients, client) && !slices.Contains(noPrices, price) {
						continue
					}
					wantNo(t, fmt.Sprintf("%s: %v", c.what, call{allow, id, client, price}), b.Allow(id, client, price), api.ErrArg)
				}
			}
		}
		holdBook(t, c.what, b, state{c.money, c.allowed, c.paid})
	}
}

// P9.1, P9.2: for whom it is allowed, and who has paid, is not allowed again,
// of that client or another one, be there money and room or not: ErrTwice
// comes ahead of ErrLess and ErrOver.
func TestTwice(t *testing.T) {
	for _, first := range []row{{4}, {10, 10, 0, 0, 0, 0, 0, 2}, {most, most, most, most, most, most, most, most}} {
		then := state{first, []deal{{7, 0, 1}}, []deal{{8, 0, 3}}}
		then.money[0] -= 3
		b := filled(t, first, then.paid, then.allowed...)
		for _, id := range []int{7, 8} {
			for client := range clients {
				for _, price := range []int{1, 2, 3, 4, 7, 8, 10, 11, most - 4, most - 3, most} {
					c := call{allow, id, client, price}
					wantNo(t, c, c.on(b), api.ErrTwice)
				}
			}
		}
		holdBook(t, first, b, then)
	}
	full := filled(t, row{most, most}, []deal{{8, 0, most - 1}}, deal{7, 1, 1})
	for _, id := range []int{7, 8} {
		wantNo(t, "with no room", full.Allow(id, 1, 1), api.ErrTwice)
		wantNo(t, "with less, and no room", full.Allow(id, 0, 2), api.ErrTwice)
	}
	holdBook(t, "full", full, state{row{1, most}, []deal{{7, 1, 1}}, []deal{{8, 0, most - 1}}})
}

// P9.1: where there is less than price, and no room for it either, it is less.
func TestLessAheadOfOver(t *testing.T) {
	first := row{most, 5, 0, most}
	b := filled(t, first, []deal{{7, 0, most - 3}}, deal{8, 1, 2})
	then := state{row{3, 5, 0, most}, []deal{{8, 1, 2}}, []deal{{7, 0, most - 3}}}
	for _, c := range []struct {
		call call
		want api.Errno
	}{
		{call{allow, 1, 0, 3}, api.ErrOver}, {call{allow, 1, 0, 4}, api.ErrLess}, {call{allow, 1, 0, most}, api.ErrLess},
		{call{allow, 1, 1, 3}, api.ErrOver}, {call{allow, 1, 1, 4}, api.ErrLess},
		{call{allow, 1, 2, 1}, api.ErrLess}, {call{allow, 1, 2, 2}, api.ErrLess},
		{call{allow, 1, 3, 2}, api.ErrOver}, {call{allow, 1, 3, most}, api.ErrOver},
	} {
		wantNo(t, c.call, c.call.on(b), c.want)
		holdBook(t, c.call, b, then)
	}
	wantNo(t, "just the room", b.Allow(1, 3, 1), api.OK)
	wantNo(t, "less, and no room", b.Allow(2, 2, 1), api.ErrLess)
}

// P9.1: for whom nothing is allowed nothing is captured or voided, be it an id
// or not; nor is anything of what was paid already.
func TestNone(t *testing.T) {
	first := row{10, 5}
	for _, c := range []struct {
		money   row
		paid    []deal
		allowed []deal
	}{
		{first, nil, nil},
		{first, nil, []deal{{5, 0, 2}}},
		{row{8, 5}, []deal{{1, 0, 2}}, nil},
		{row{8, 0}, []deal{{1, 0, 2}, {999, 1, 5}}, []deal{{5, 0, 2}, {6, 0, 6}}},
	} {
		b := filled(t, first, c.paid, c.allowed...)
		for _, id := range append([]int{1, 2, 3, 7, 998, 999}, noIds...) {
			wantNo(t, call{kind: capture, id: id}, b.Capture(id), api.ErrNone)
			wantNo(t, call{kind: void, id: id}, b.Void(id), api.ErrNone)
		}
		holdBook(t, c, b, state{c.money, c.allowed, c.paid})
	}
}

// P9.1, P9.2: every run of up to four calls by three ids on two clients, one
// of whom has more than finds room beside the other's, held against a plain
// book.
func TestRuns(t *testing.T) {
	first := row{3, 0, 0, 0, 0, 0, 0, most}
	var calls []call
	for _, id := range []int{2, 1, 999} {
		calls = append(calls,
			call{allow, id, 0, 1}, call{allow, id, 0, 2}, call{allow, id, 7, 1}, call{allow, id, 7, most - 2},
			call{kind: capture, id: id}, call{kind: void, id: id})
	}
	told := map[api.Errno]int{}
	runs := [][]call{nil}
	for range 4 {
		var next [][]call
		for _, run := range runs {
			for _, c := range calls {
				next = append(next, append(slices.Clone(run), c))
			}
		}
		runs = next
		for _, run := range runs {
			holdRun(t, first, run, told)
			if t.Failed() {
				return
			}
		}
	}
	wantTold(t, told)
}

// holdRun makes the calls on a book and on a plain one; told counts what they
// were told.
func holdRun(t *testing.T, first row, run []call, told map[api.Errno]int) {
	t.Helper()
	b, p := purse.New(first[:]), &plain{money: first}
	for _, c := range run {
		want := p.do(c)
		wantNo(t, run, c.on(b), want)
		told[want]++
	}
	holdBook(t, run, b, p.state())
	holdTogether(t, run, b, first)
}

// wantTold holds that runs came by all that right arguments may be told.
func wantTold(t *testing.T, told map[api.Errno]int) {
	t.Helper()
	for _, e := range []api.Errno{api.OK, api.ErrTwice, api.ErrLess, api.ErrOver, api.ErrNone} {
		if told[e] == 0 {
			t.Errorf("no call was told %d", e)
		}
	}
}

// P9.2: over long runs that fill the till, of all clients and of ids that come
// again, all money together is what there was, and none is ever below 0.
func TestLongRuns(t *testing.T) {
	told := map[api.Errno]int{}
	for seed := range 10 {
		first := row{400, 0, 1, most, 25, most / 2, 100, most}
		b, p := purse.New(first[:]), &plain{money: first}
		next := seed
		for i := range 1000 {
			next = (next*1103515245 + 12345) % (1 << 31)
			n := next >> 8
			c := call{kind(n % 3), 1 + i/8 + n/3%12, n / 36 % clients, 1 + n/288%6}
			if n%5 == 0 {
				c.price *= most / 20
			}
			want := p.do(c)
			wantNo(t, c, c.on(b), want)
			told[want]++
			holdTogether(t, c, b, first)
			for client := range clients {
				if b.Money(client) != p.money[client] || b.Allowed(client) != p.kept[client] || b.Allowed(client) < 0 || b.Money(client) < b.Allowed(client) {
					t.Fatalf("%v: of %d: %d, %d; want %d, %d", c, client, b.Money(client), b.Allowed(client), p.money[client], p.kept[client])
				}
			}
			if b.Till() != p.till || b.Till() < 0 || b.Till() > most {
				t.Fatalf("%v: the till has %d; want %d", c, b.Till(), p.till)
			}
		}
		holdBook(t, seed, b, p.state())
	}
	wantTold(t, told)
}

// P9.1, P9.2: all ids there are, in an order that neither rises nor falls;
// whoever has paid pays no more.
func TestAllIds(t *testing.T) {
	first := row(slices.Repeat([]int{100000}, clients))
	b, p := purse.New(first[:]), &plain{money: first}
	for i := 1; i <= api.MaxId; i++ {
		id := 377 * i % 1000
		c := call{allow, id, id % clients, id}
		wantNo(t, c, c.on(b), api.OK)
		p.do(c)
	}
	holdBook(t, "all allowed", b, p.state())
	for i := 1; i <= api.MaxId; i++ {
		c := call{kind: capture, id: 891 * i % 1000}
		if c.id%3 == 0 {
			c.kind = void
		}
		wantNo(t, c, c.on(b), api.OK)
		p.do(c)
	}
	holdBook(t, "all ended", b, p.state())
	for id := 1; id <= api.MaxId; id++ {
		c := call{allow, id, 7 - id%clients, 1}
		want := api.ErrTwice
		if id%3 == 0 {
			want = api.OK
		}
		wantNo(t, c, c.on(b), want)
		p.do(c)
	}
	holdBook(t, "at last", b, p.state())
	holdTogether(t, "at last", b, first)
}

// R2: books keep to themselves, those of one row too.
func TestBooksApart(t *testing.T) {
	money := row{5, 9}
	a, b := filled(t, money, nil, deal{1, 0, 2}), filled(t, money, nil, deal{1, 1, 4}, deal{2, 0, 5})
	other := state{money, []deal{{1, 1, 4}, {2, 0, 5}}, nil}
	wantNo(t, "capture in one", a.Capture(1), api.OK)
	holdBook(t, "the one", a, state{row{3, 9}, nil, []deal{{1, 0, 2}}})
	holdBook(t, "the other", b, other)
	wantNo(t, "none in one", a.Void(2), api.ErrNone)
	wantNo(t, "allow in one", a.Allow(2, 1, 9), api.OK)
	holdBook(t, "the one, later", a, state{row{3, 9}, []deal{{2, 1, 9}}, []deal{{1, 0, 2}}})
	holdBook(t, "the other, later", b, other)
}

// P9.1: a nil book tells ErrArg ahead of all else, and zero values.
func TestNil(t *testing.T) {
	var none *purse.Book
	for _, id := range append([]int{1, 7, 999}, noIds...) {
		for _, client := range append([]int{0, 7}, noClients...) {
			for _, price := range append([]int{1, 5, most}, noPrices...) {
				c := call{allow, id, client, price}
				wantNo(t, c, c.on(none), api.ErrArg)
			}
		}
		wantNo(t, call{kind: capture, id: id}, none.Capture(id), api.ErrArg)
		wantNo(t, call{kind: void, id: id}, none.Void(id), api.ErrArg)
	}
	holdBook(t, "nil", none, state{})
}

// R3: a book that New did not make is one of nothing.
func TestZeroBook(t *testing.T) {
	var b purse.Book
	wantNo(t, "Allow", b.Allow(1, 0, 1), api.ErrLess)
	wantNo(t, "Allow of no client", b.Allow(1, clients, 1), api.ErrArg)
	wantNo(t, "Capture", b.Capture(1), api.ErrNone)
	wantNo(t, "Void", b.Void(1), api.ErrNone)
	holdBook(t, "zero", &b, state{})
}
