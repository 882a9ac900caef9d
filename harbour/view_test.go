package harbour_test

import (
	"fmt"
	"slices"
	"strings"
	"testing"

	"wharfinger/api"
	"wharfinger/desk"
	"wharfinger/harbour"
	"wharfinger/keeper"
	"wharfinger/service"
	"wharfinger/shipper"
	"wharfinger/vote"
)

// most is the greatest amount.
const most = 1000000000

// names are those of all nodes, by number.
var names = [...]string{"chief", "stock", "purse", "shipper", "coupon", "credit", "fraud"}

// kinds are the names of all kinds of messages, by number.
var kinds = [...]string{
	"", "do", "done", "fail", "undo", "undone", "prepare", "yes", "no", "commit", "abort",
	"ack", "ask", "commits", "aborts", "ship", "shipped", "damage", "damaged",
}

// setup is one of which all is enough for some orders.
func setup() api.Setup {
	return api.Setup{Stock: []int{9, 20}, Money: []int{500, 70}, Holds: []int{8, 12, 10}, Orders: 6, Room: 300, Tries: 3}
}

// made is a harbour of s.
func made(t *testing.T, s api.Setup) *harbour.Harbour {
	t.Helper()
	h, e := harbour.New(s)
	if e != api.OK || h == nil {
		t.Fatalf("New(%+v): %d", s, e)
	}
	return h
}

// sized is an order of 2 of item 1 for 30 by client 0, with so many steps, whose
// services do not rise; one of four may not be.
func sized(id, steps int) api.Order {
	all := []api.Step{{Service: api.Credit, N: 3}, {Service: api.Coupon, N: 2}, {Service: api.Fraud, N: 1}, {Service: api.Credit, N: 3}}
	return api.Order{Id: id, Item: 1, Qty: 2, Client: 0, Price: 30, Steps: all[:steps]}
}

// Commands.

func submit(id, steps int) api.Cmd { return api.Cmd{Kind: api.CSubmit, Order: sized(id, steps)} }
func cancel(id int) api.Cmd        { return api.Cmd{Kind: api.CCancel, Id: id} }
func accept(id int) api.Cmd        { return api.Cmd{Kind: api.CAccept, Id: id} }
func deliver(i int) api.Cmd        { return api.Cmd{Kind: api.CDeliver, I: i} }
func drop(i int) api.Cmd           { return api.Cmd{Kind: api.CDrop, I: i} }
func double(i int) api.Cmd         { return api.Cmd{Kind: api.CDouble, I: i} }
func ring(node, id int) api.Cmd    { return api.Cmd{Kind: api.CRing, Node: node, Id: id} }
func start(node int) api.Cmd       { return api.Cmd{Kind: api.CStart, Node: node} }

func force(node, id int, yes bool) api.Cmd {
	return api.Cmd{Kind: api.CForce, Node: node, Id: id, Yes: yes}
}

func crash(node, stay, torn int) api.Cmd {
	return api.Cmd{Kind: api.CCrash, Node: node, I: stay, Id: torn}
}

// msgText is a message: its kind, from whom to whom, the order, the step (if it
// is not the first one), A and B (if they are not nought).
func msgText(m api.Msg) string {
	s := fmt.Sprint(kinds[m.Kind], " ", names[m.From], ">", names[m.To], " ", m.Id)
	if m.Step != 0 {
		s += fmt.Sprint(".", m.Step)
	}
	if m.A != 0 || m.B != 0 {
		s += fmt.Sprint(" (", m.A, " ", m.B, ")")
	}
	return s
}

// msgsText is a row of messages.
func msgsText(l []api.Msg) string {
	var words []string
	for _, m := range l {
		words = append(words, msgText(m))
	}
	return strings.Join(words, ", ")
}

// traceText is what happened, in order: done0, commits and so on.
func traceText(l []api.Act) string {
	var words []string
	for _, a := range l {
		word := kinds[a.Kind]
		if a.Kind == api.MDone || a.Kind == api.MUndone || a.Step != 0 {
			word += fmt.Sprint(a.Step)
		}
		words = append(words, word)
	}
	return strings.Join(words, " ")
}

// view is what is to be seen of a harbour, or of a plain one.
type view struct {
	desk    *desk.Desk
	keeper  func(node int) *keeper.Node
	service func(node int) *service.Node
	shipper *shipper.Node
	way     []api.Msg
	lost    int
	trace   func(id int) []api.Act
	forced  func(id int) bool
}

func viewOf(h *harbour.Harbour) view {
	return view{h.Desk(), h.Keeper, h.Service, h.Shipper(), way(h), h.Post().Lost(), h.Trace, h.Forced}
}

// way is what is on its way.
func way(h *harbour.Harbour) []api.Msg {
	var l []api.Msg
	for i, m := range h.Post().All() {
		if i == len(l) {
			l = append(l, m)
		}
	}
	return l
}

// ofOrder is what is to be seen of an order: what the desk tells; its states at
// Stock and Purse, at Coupon, Credit and Fraud; whether its parcel went; its
// trace; whether it was forced.
func (v view) ofOrder(id int) string {
	_, told, _ := strings.Cut(v.desk.Tell(id), ": ")
	states := []string{vote.Name(v.keeper(api.Stock).State(id)), vote.Name(v.keeper(api.Purse).State(id))}
	var steps []string
	for node := api.Coupon; node <= api.Fraud; node++ {
		steps = append(steps, [...]string{"-", "did", "cant", "undid"}[v.service(node).State(id)])
	}
	parcel := ""
	if item, qty, went := v.shipper.Parcels().Has(id); went {
		parcel = fmt.Sprint(" ", qty, "x", item)
	}
	s := fmt.Sprint(told, "; ", strings.Join(states, ", "), "; ", strings.Join(steps, " "), parcel, "; ", traceText(v.trace(id)))
	if v.forced(id) {
		s += "; forced"
	}
	return s
}

// ofBooks is what all books say: on hand, and free; clients' money, and what is
// allowed of it; the till; what is left at the services; what went; who is down.
func (v view) ofBooks() string {
	goods, money := v.keeper(api.Stock).Goods(), v.keeper(api.Purse).Money()
	left := func(i int) int { return v.service(api.Coupon + i).Left() }
	return strings.Join([]string{
		rowText(goods.OnHand), rowText(goods.Free), rowText(money.Money), rowText(money.Allowed), fmt.Sprint(money.Till()),
		rowText(left), rowText(v.shipper.Parcels().Went), strings.Join(v.down(), " "),
	}, "; ")
}

// rowText is what there is of each item or client, without the noughts at the
// end.
func rowText(of func(i int) int) string {
	s := ""
	for i := range api.MaxItems {
		s += fmt.Sprint(" ", of(i))
	}
	for strings.HasSuffix(s, " 0") {
		s = s[:len(s)-2]
	}
	return strings.TrimSpace(s)
}

// down tells the names of all that are down.
func (v view) down() []string {
	var l []string
	for number, down := range []bool{
		v.desk.Chief().Down(), v.keeper(api.Stock).Down(), v.keeper(api.Purse).Down(), v.shipper.Down(),
		v.service(api.Coupon).Down(), v.service(api.Credit).Down(), v.service(api.Fraud).Down(),
	} {
		if down {
			l = append(l, names[number])
		}
	}
	return l
}

// text is all that is to be seen, of these orders.
func (v view) text(ids []int) string {
	s := fmt.Sprint(v.ofBooks(), "; lost ", v.lost, "; on their way: ", msgsText(v.way))
	for _, id := range ids {
		s += fmt.Sprint("; ", id, ": ", v.ofOrder(id))
	}
	return s
}

// acts does commands, none of which is refused.
func acts(t *testing.T, h *harbour.Harbour, l ...api.Cmd) {
	t.Helper()
	for i, c := range l {
		if e := h.Do(c); e != api.OK {
			t.Fatalf("command %d, %+v: %d", i, c, e)
		}
	}
}

// deliverAll delivers the first message, so often as there is one.
func deliverAll(t *testing.T, h *harbour.Harbour) {
	t.Helper()
	for h.Post().Len() > 0 {
		acts(t, h, deliver(0))
	}
}

// holdWay holds what is on its way.
func holdWay(t *testing.T, what any, h *harbour.Harbour, want string) {
	t.Helper()
	if got := msgsText(way(h)); got != want {
		t.Errorf("%v: on their way are %q; want %q", what, got, want)
	}
}

// holdOrder holds what is to be seen of an order.
func holdOrder(t *testing.T, what any, h *harbour.Harbour, id int, want string) {
	t.Helper()
	if got := viewOf(h).ofOrder(id); got != want {
		t.Errorf("%v: of %d there is seen %q; want %q", what, id, got, want)
	}
}

// holdRefused holds that a command is refused, and nothing is changed by it.
func holdRefused(t *testing.T, what any, h *harbour.Harbour, c api.Cmd, want api.Errno, ids ...int) {
	t.Helper()
	was := viewOf(h).text(ids)
	if e := h.Do(c); e != want {
		t.Errorf("%v: %+v: %d; want %d", what, c, e, want)
	}
	if now := viewOf(h).text(ids); now != was {
		t.Errorf("%v: behind %+v there is seen\n%s; it was\n%s", what, c, now, was)
	}
}

// told is a command, and what is seen behind it.
type told struct {
	c     api.Cmd
	way   string
	order string
}

// holdTold holds what is seen of an order behind each of the commands.
func holdTold(t *testing.T, what string, h *harbour.Harbour, id int, l []told) {
	t.Helper()
	for i, x := range l {
		place := fmt.Sprint(what, ", ", i)
		acts(t, h, x.c)
		holdWay(t, place, h, x.way)
		holdOrder(t, place, h, id, x.order)
	}
}

// has is whether s is one of l.
func has(l []string, s string) bool { return slices.Contains(l, s) }
