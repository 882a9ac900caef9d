package audit_test

import (
	"fmt"
	"slices"
	"strings"
	"testing"

	"wharfinger/api"
	"wharfinger/audit"
	"wharfinger/harbour"
)

// most is the greatest amount.
const most = 1000000000

// noIds are numbers that are no ids.
var noIds = []int{-1 << 63, -1 << 32, -1, 0, 1000, 1001, 1 << 32, 1<<32 + 7, 1<<63 - 1}

// setup is one of which all is enough for some orders.
func setup() api.Setup {
	return api.Setup{Stock: []int{9, 20}, Money: []int{500, 70}, Holds: []int{8, 12, 10}, Orders: 9, Room: 300, Tries: 3}
}

// made is a harbour of s.
func made(t *testing.T, s api.Setup) *harbour.Harbour {
	t.Helper()
	h, e := harbour.New(s)
	if e != api.OK || h == nil {
		t.Fatalf("New(%+v): %d", s, e)
	}
	return h
}

// asks is an order of so many of an item, for so much by a client.
func asks(id, item, qty, client, price int) api.Order {
	return api.Order{Id: id, Item: item, Qty: qty, Client: client, Price: price}
}

// sized is an order of 2 of item 1 for 30 by client 0, with so many steps, whose
// services do not rise; one of four may not be.
func sized(id, steps int) api.Order {
	o := asks(id, 1, 2, 0, 30)
	o.Steps = []api.Step{{Service: api.Credit, N: 3}, {Service: api.Coupon, N: 2}, {Service: api.Fraud, N: 1}, {Service: api.Credit, N: 3}}[:steps]
	return o
}

// Commands.

func begin(o api.Order) api.Cmd    { return api.Cmd{Kind: api.CSubmit, Order: o} }
func submit(id, steps int) api.Cmd { return begin(sized(id, steps)) }
func cancel(id int) api.Cmd        { return api.Cmd{Kind: api.CCancel, Id: id} }
func accept(id int) api.Cmd        { return api.Cmd{Kind: api.CAccept, Id: id} }
func deliver(i int) api.Cmd        { return api.Cmd{Kind: api.CDeliver, I: i} }
func drop(i int) api.Cmd           { return api.Cmd{Kind: api.CDrop, I: i} }
func double(i int) api.Cmd         { return api.Cmd{Kind: api.CDouble, I: i} }
func ring(node, id int) api.Cmd    { return api.Cmd{Kind: api.CRing, Node: node, Id: id} }
func start(node int) api.Cmd       { return api.Cmd{Kind: api.CStart, Node: node} }

func force(node, id int, yes bool) api.Cmd {
	return api.Cmd{Kind: api.CForce, Node: node, Id: id, Yes: yes}
}

func crash(node, stay, torn int) api.Cmd {
	return api.Cmd{Kind: api.CCrash, Node: node, I: stay, Id: torn}
}

// acts does commands, none of which is refused.
func acts(t *testing.T, h *harbour.Harbour, l ...api.Cmd) {
	t.Helper()
	for i, c := range l {
		if e := h.Do(c); e != api.OK {
			t.Fatalf("command %d, %+v: %d", i, c, e)
		}
	}
}

// dropAll drops all that is on its way.
func dropAll(t *testing.T, h *harbour.Harbour) {
	t.Helper()
	for h.Post().Len() > 0 {
		acts(t, h, drop(0))
	}
}

// settle lets all come to an end.
func settle(t *testing.T, h *harbour.Harbour) {
	t.Helper()
	h.Settle(300)
	if n := h.Post().Len(); n != 0 || h.Settle(1) != 0 {
		t.Fatalf("it comes to no end; on their way are %d", n)
	}
}

// msg is a message; ab is its A, its B and its Step, as far as it goes.
func msg(kind, from, to, id int, ab ...int) api.Msg {
	var n [3]int
	copy(n[:], ab)
	return api.Msg{Kind: kind, From: from, To: to, Id: id, A: n[0], B: n[1], Step: n[2]}
}

// hears hands forged messages to their nodes, past the harbour: its traces say
// nothing of them.
func hears(h *harbour.Harbour, l ...api.Msg) {
	for _, m := range l {
		switch m.To {
		case api.Chief:
			h.Desk().Chief().Handle(m)
		case api.Stock, api.Purse:
			h.Keeper(m.To).Handle(m)
		case api.Shipper:
			h.Shipper().Handle(m)
		default:
			h.Service(m.To).Handle(m)
		}
	}
}

// gets lets forged messages come through the harbour, ahead of all others that
// are on their way: its traces say what they do.
func gets(t *testing.T, h *harbour.Harbour, l ...api.Msg) {
	t.Helper()
	for _, m := range l {
		h.Post().Put(m)
		acts(t, h, deliver(h.Post().Len()-1))
	}
}

// rowText is a row without the noughts at its end.
func rowText(row [8]int) string {
	s := strings.Trim(fmt.Sprint(row), "[]")
	for strings.HasSuffix(s, " 0") {
		s = s[:len(s)-2]
	}
	if s == "0" {
		return ""
	}
	return s
}

// reportText is a report: on hand; went; money; the till; left; and the orders
// of each kind that there are.
func reportText(r audit.Report) string {
	s := fmt.Sprint(rowText(r.OnHand), "; ", rowText(r.Went), "; ", rowText(r.Money), "; ", r.Till, "; ", strings.Trim(fmt.Sprint(r.Left), "[]"))
	for _, x := range []struct {
		name string
		ids  []int
	}{{"shipped", r.Shipped}, {"aborted", r.Aborted}, {"damaged", r.Damaged}, {"open", r.Open}} {
		if len(x.ids) > 0 {
			s += fmt.Sprint("; ", x.name, " ", strings.Trim(fmt.Sprint(x.ids), "[]"))
		}
	}
	return s
}

// holdOf holds what the books say.
func holdOf(t *testing.T, what any, h *harbour.Harbour, want string) {
	t.Helper()
	if got := reportText(audit.Of(h)); got != want {
		t.Errorf("%v: Of tells %q; want %q", what, got, want)
	}
}

// linesText is what is amiss, in one line.
func linesText(l []string) string { return strings.Join(l, ", ") }

// holdEven holds what is amiss: nothing, if want is empty.
func holdEven(t *testing.T, what any, s api.Setup, h *harbour.Harbour, want string) {
	t.Helper()
	got := audit.Even(s, h)
	if linesText(got) != want || want == "" && len(got) != 0 {
		t.Errorf("%v: Even tells %q; want %q", what, linesText(got), want)
	}
}

// with is the row with one number changed to n.
func with(row []int, i, n int) []int {
	l := slices.Clone(row)
	l[i] = n
	return l
}
