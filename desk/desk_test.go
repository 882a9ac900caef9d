package desk_test

import (
	"fmt"
	"math"
	"slices"
	"strings"
	"testing"

	"wharfinger/api"
	"wharfinger/desk"
)

// most is the greatest amount.
const most = 1000000000

// noIds are numbers that are no ids, some of them alike in their low bits.
var noIds = []int{0, -1, -7, 1000, 1001, 1<<32 + 7, 7 - 1<<32, 1<<16 + 7, math.MinInt, math.MinInt + 7, math.MaxInt}

// made is an order of so many steps, whose services do not rise.
func made(id, steps int) api.Order {
	all := []api.Step{{Service: api.Fraud, N: 3}, {Service: api.Coupon, N: 1}, {Service: api.Credit, N: most}}
	return api.Order{Id: id, Item: 2, Qty: 5, Client: 3, Price: 100, Steps: all[:steps]}
}

// wrong is an order that may not be, for nothing but its price.
func wrong(id, steps int) api.Order {
	o := made(id, steps)
	o.Price = 0
	return o
}

// heard is the message to the chief that a word names: done0, fail0, undone0,
// yesS, noS, ackS, damageS, shipped.
func heard(o api.Order, word string) api.Msg {
	m := api.Msg{To: api.Chief, Id: o.Id}
	name := strings.TrimRight(word, "012SP")
	m.Kind = map[string]int{
		"done": api.MDone, "fail": api.MFail, "undone": api.MUndone, "yes": api.MYes, "no": api.MNo,
		"ack": api.MAck, "damage": api.MDamage, "shipped": api.MShipped,
	}[name]
	last := word[len(word)-1]
	switch name {
	case "done", "fail", "undone":
		m.Step = int(last - '0')
		m.From = o.Steps[m.Step].Service
	case "shipped":
		m.From = api.Shipper
	default:
		m.From = map[byte]int{'S': api.Stock, 'P': api.Purse}[last]
	}
	return m
}

// act does what a word names, about an order: submit, wrong (one of that id that
// may not be), cancel, accept, ring; crash0, crash1, crash2, crash9 (so many
// lines stay), start; else a message to the chief.
func act(d *desk.Desk, o api.Order, word string) ([]api.Msg, api.Errno) {
	switch word {
	case "submit":
		return d.Submit(o)
	case "wrong":
		return d.Submit(wrong(o.Id, len(o.Steps)))
	case "cancel":
		return d.Chief().Cancel(o.Id)
	case "accept":
		return nil, d.Chief().Accept(o.Id)
	case "ring":
		return d.Chief().Ring(o.Id), api.OK
	case "crash0", "crash1", "crash2", "crash9":
		d.Chief().Crash(int(word[5]-'0'), 0)
		return nil, api.OK
	case "start":
		d.Chief().Start()
		return nil, api.OK
	}
	return d.Chief().Handle(heard(o, word)), api.OK
}

// acts does what words name, about an order.
func acts(d *desk.Desk, o api.Order, words string) {
	for _, word := range strings.Fields(words) {
		act(d, o, word)
	}
}

// text is all that All goes over.
func text(d *desk.Desk) string {
	var l []string
	for id, status := range d.All() {
		l = append(l, fmt.Sprint(id, "=", status))
	}
	return strings.Join(l, " ")
}

// holdAll holds what All goes over, and how many are open.
func holdAll(t *testing.T, what any, d *desk.Desk, want string, open int) {
	t.Helper()
	if got := text(d); got != want {
		t.Errorf("%v: All goes over %q; want %q", what, got, want)
	}
	if got := d.Open(); got != open {
		t.Errorf("%v: %d are open; want %d", what, got, open)
	}
}

// holdOne holds how one stands.
func holdOne(t *testing.T, what any, d *desk.Desk, id, status int, tell string) {
	t.Helper()
	if got := d.Status(id); got != status {
		t.Errorf("%v: the status of %d is %d; want %d", what, id, got, status)
	}
	if tell != "" {
		tell = fmt.Sprint(id, ": ", tell)
	}
	if got := d.Tell(id); got != tell {
		t.Errorf("%v: of %d it tells %q; want %q", what, id, got, tell)
	}
}

// holdSubmit holds what Submit tells: at OK something is to be sent, and beside
// an error nothing.
func holdSubmit(t *testing.T, what any, d *desk.Desk, o api.Order, no api.Errno) {
	t.Helper()
	if l, e := d.Submit(o); e != no || (len(l) > 0) != (no == api.OK) {
		t.Errorf("%v: Submit(%v): %+v, %d; want %d", what, o, l, e, no)
	}
}

// tale is a step, and how its order stands behind it, and how many are open; and
// what is told of it behind a crash that loses what is not sure, and a start, and
// how many are open then.
type tale struct {
	word     string
	status   int
	tell     string
	open     int
	sure     string
	sureOpen int
}

// story is the way of one order of so many steps.
type story struct {
	name  string
	steps int
	tales []tale
}

var stories = []story{
	{"no steps, for it", 0, []tale{
		{"submit", api.SPreparing, "preparing", 1, "forward 0/0", 1},
		{"yesP", api.SPreparing, "preparing", 1, "forward 0/0", 1},
		{"yesS", api.SCommitted, "committed", 1, "committed", 1},
		{"ackS", api.SCommitted, "committed", 1, "committed", 1},
		{"ackP", api.SCommitted, "committed", 1, "committed", 1},
		{"shipped", api.SShipped, "shipped", 0, "committed", 1},
	}},
	{"one step, for it", 1, []tale{
		{"submit", api.SForward, "forward 0/1", 1, "forward 0/1", 1},
		{"done0", api.SPreparing, "preparing", 1, "forward 0/1", 1},
		{"yesS", api.SPreparing, "preparing", 1, "forward 0/1", 1},
		{"yesP", api.SCommitted, "committed", 1, "committed", 1},
		{"shipped", api.SCommitted, "committed", 1, "committed", 1},
		{"ackP", api.SCommitted, "committed", 1, "committed", 1},
		{"ackS", api.SShipped, "shipped", 0, "committed", 1},
	}},
	{"three steps, for it", 3, []tale{
		{"submit", api.SForward, "forward 0/3", 1, "forward 0/3", 1},
		{"done0", api.SForward, "forward 1/3", 1, "forward 0/3", 1},
		{"done1", api.SForward, "forward 2/3", 1, "forward 0/3", 1},
		{"done2", api.SPreparing, "preparing", 1, "forward 0/3", 1},
		{"yesP", api.SPreparing, "preparing", 1, "forward 0/3", 1},
		{"yesS", api.SCommitted, "committed", 1, "committed", 1},
		{"ackP", api.SCommitted, "committed", 1, "committed", 1},
		{"shipped", api.SCommitted, "committed", 1, "committed", 1},
		{"ackS", api.SShipped, "shipped", 0, "committed", 1},
	}},
	{"no steps, money says no", 0, []tale{
		{"submit", api.SPreparing, "preparing", 1, "forward 0/0", 1},
		{"noP", api.SUndoing, "undoing 0/0", 1, "undoing 0/0", 1},
		{"ackP", api.SUndoing, "undoing 0/0", 1, "undoing 0/0", 1},
		{"ackS", api.SAborted, "aborted", 0, "undoing 0/0", 1},
	}},
	{"one step, cancelled at once", 1, []tale{
		{"submit", api.SForward, "forward 0/1", 1, "forward 0/1", 1},
		{"cancel", api.SUndoing, "undoing 0/1", 1, "undoing 0/1", 1},
		{"undone0", api.SUndoing, "undoing 1/1", 1, "undoing 0/1", 1},
		{"ackS", api.SUndoing, "undoing 1/1", 1, "undoing 0/1", 1},
		{"ackP", api.SAborted, "aborted", 0, "undoing 0/1", 1},
	}},
	{"three steps, the last one fails", 3, []tale{
		{"submit", api.SForward, "forward 0/3", 1, "forward 0/3", 1},
		{"done0", api.SForward, "forward 1/3", 1, "forward 0/3", 1},
		{"done1", api.SForward, "forward 2/3", 1, "forward 0/3", 1},
		{"fail2", api.SUndoing, "undoing 0/3", 1, "undoing 0/3", 1},
		{"undone2", api.SUndoing, "undoing 1/3", 1, "undoing 0/3", 1},
		{"ackS", api.SUndoing, "undoing 1/3", 1, "undoing 0/3", 1},
		{"undone1", api.SUndoing, "undoing 2/3", 1, "undoing 0/3", 1},
		{"undone0", api.SUndoing, "undoing 3/3", 1, "undoing 0/3", 1},
		{"ackP", api.SAborted, "aborted", 0, "undoing 0/3", 1},
	}},
	{"two steps, cancelled when it is asked", 2, []tale{
		{"submit", api.SForward, "forward 0/2", 1, "forward 0/2", 1},
		{"done0", api.SForward, "forward 1/2", 1, "forward 0/2", 1},
		{"done1", api.SPreparing, "preparing", 1, "forward 0/2", 1},
		{"cancel", api.SUndoing, "undoing 0/2", 1, "undoing 0/2", 1},
		{"ackP", api.SUndoing, "undoing 0/2", 1, "undoing 0/2", 1},
		{"undone1", api.SUndoing, "undoing 1/2", 1, "undoing 0/2", 1},
		{"ackS", api.SUndoing, "undoing 1/2", 1, "undoing 0/2", 1},
		{"undone0", api.SAborted, "aborted", 0, "undoing 0/2", 1},
	}},
	{"no steps, for it, damage at stock", 0, []tale{
		{"submit", api.SPreparing, "preparing", 1, "forward 0/0", 1},
		{"yesS", api.SPreparing, "preparing", 1, "forward 0/0", 1},
		{"yesP", api.SCommitted, "committed", 1, "committed", 1},
		{"damageS", api.SDamaged, "damaged stock", 1, "damaged stock", 1},
		{"ackP", api.SDamaged, "damaged stock", 1, "damaged stock", 1},
		{"shipped", api.SDamaged, "damaged stock", 0, "damaged stock", 1},
		{"accept", api.SShipped, "shipped", 0, "shipped", 0},
	}},
	{"one step, for it, damage at both, accepted ahead of its end", 1, []tale{
		{"submit", api.SForward, "forward 0/1", 1, "forward 0/1", 1},
		{"done0", api.SPreparing, "preparing", 1, "forward 0/1", 1},
		{"yesS", api.SPreparing, "preparing", 1, "forward 0/1", 1},
		{"yesP", api.SCommitted, "committed", 1, "committed", 1},
		{"damageP", api.SDamaged, "damaged purse", 1, "damaged purse", 1},
		{"damageS", api.SDamaged, "damaged stock purse", 1, "damaged stock purse", 1},
		{"accept", api.SCommitted, "committed", 1, "committed", 1},
		{"damageS", api.SCommitted, "committed", 1, "committed", 1},
		{"shipped", api.SShipped, "shipped", 0, "committed", 1},
	}},
	{"three steps, turned, damage at purse", 3, []tale{
		{"submit", api.SForward, "forward 0/3", 1, "forward 0/3", 1},
		{"done0", api.SForward, "forward 1/3", 1, "forward 0/3", 1},
		{"cancel", api.SUndoing, "undoing 0/3", 1, "undoing 0/3", 1},
		{"undone2", api.SUndoing, "undoing 1/3", 1, "undoing 0/3", 1},
		{"damageP", api.SDamaged, "damaged purse", 1, "damaged purse", 1},
		{"undone1", api.SDamaged, "damaged purse", 1, "damaged purse", 1},
		{"accept", api.SUndoing, "undoing 2/3", 1, "undoing 2/3", 1},
		{"undone0", api.SUndoing, "undoing 3/3", 1, "undoing 2/3", 1},
		{"ackS", api.SAborted, "aborted", 0, "undoing 2/3", 1},
	}},
	{"no steps, turned, damage at both", 0, []tale{
		{"submit", api.SPreparing, "preparing", 1, "forward 0/0", 1},
		{"noS", api.SUndoing, "undoing 0/0", 1, "undoing 0/0", 1},
		{"damageS", api.SDamaged, "damaged stock", 1, "damaged stock", 1},
		{"damageP", api.SDamaged, "damaged stock purse", 0, "damaged stock purse", 0},
		{"accept", api.SAborted, "aborted", 0, "aborted", 0},
	}},
}

// P24.1, P24.2: orders go their whole way, for it, and turning: Status, Tell,
// All and Open behind each step.
func TestStories(t *testing.T) {
	for _, s := range stories {
		for _, id := range []int{1, 7, 500, 998, 999} {
			d, o := desk.New(1, 50, 3), made(id, s.steps)
			holdOne(t, s.name, d, id, api.SNone, "")
			for i, x := range s.tales {
				what := fmt.Sprint(s.name, ", ", i)
				if _, e := act(d, o, x.word); e != api.OK {
					t.Errorf("%s: %s is %d", what, x.word, e)
				}
				holdOne(t, what, d, id, x.status, x.tell)
				holdAll(t, what, d, fmt.Sprint(id, "=", x.status), x.open)
			}
		}
	}
}

// idOf is the id of the kth story, where all are told at a time: they neither
// rise nor fall.
func idOf(k int) int { return 1 + 377*(k+1)%api.MaxId }

// P24.1, P24.2: all stories at a time, one step of each in turn, and between
// them ids that are rejected: each stands alone.
func TestSeveral(t *testing.T) {
	d := desk.New(len(stories), 400, 3)
	standing, open := map[int]int{}, map[int]int{}
	for i := range 10 {
		for k, s := range stories {
			if i >= len(s.tales) {
				continue
			}
			id, x := idOf(k), s.tales[i]
			what := fmt.Sprint(s.name, ", ", i)
			act(d, made(id, s.steps), x.word)
			d.Submit(wrong(id+1, 1))
			standing[id], standing[id+1], open[id] = x.status, api.SRejected, x.open
			holdOne(t, what, d, id, x.status, x.tell)
			holdOne(t, what, d, id+1, api.SRejected, "rejected")
			holdStanding(t, what, d, standing, open)
		}
	}
	for k, s := range stories {
		last := s.tales[len(s.tales)-1]
		holdOne(t, s.name, d, idOf(k), last.status, last.tell)
	}
}

// holdStanding holds how all stand, and how many of them are open.
func holdStanding(t *testing.T, what any, d *desk.Desk, standing, open map[int]int) {
	t.Helper()
	var l []string
	many := 0
	for id := range api.MaxId + 1 {
		if status := standing[id]; status != api.SNone {
			l = append(l, fmt.Sprint(id, "=", status))
		}
		many += open[id]
	}
	holdAll(t, what, d, strings.Join(l, " "), many)
}

// P24.2: the chapter's example.
func TestExample(t *testing.T) {
	d := desk.New(1, 50, 3)
	if _, e := d.Submit(made(7, 1)); e != api.OK {
		t.Errorf("Submit: %d", e)
	}
	if got := d.Tell(7); got != "7: forward 0/1" {
		t.Errorf("Tell: %q", got)
	}
}

// P24.2: All goes over them rising, in whatever order they came, begun ones and
// rejected ones in turn, to the first and the last id; a loop that ends early
// ends.
func TestAll(t *testing.T) {
	d := desk.New(64, 4096, 3)
	holdAll(t, "new", d, "", 0)
	var want []string
	for i := range 63 {
		id := 1 + (i*377)%200*5
		holdSubmit(t, i, d, wrong(id, 0), api.ErrArg)
		holdSubmit(t, i, d, made(id+1, 0), api.OK)
		want = append(want, fmt.Sprintf("%04d=8", id), fmt.Sprintf("%04d=2", id+1))
	}
	holdSubmit(t, "last", d, wrong(999, 0), api.ErrArg)
	holdSubmit(t, "last", d, made(998, 0), api.OK)
	want = append(want, "0999=8", "0998=2")
	slices.Sort(want)
	for i, x := range want {
		want[i] = strings.TrimLeft(x, "0")
	}
	holdAll(t, "all", d, strings.Join(want, " "), 64)
	for end := 1; end <= len(want); end++ {
		var got []string
		for id, status := range d.All() {
			got = append(got, fmt.Sprint(id, "=", status))
			if len(got) == end {
				break
			}
		}
		if !slices.Equal(got, want[:end]) {
			t.Errorf("a loop of %d: %v; want %v", end, got, want[:end])
		}
	}
	// A function that goes on behind its end is not asked for more.
	calls := 0
	d.All()(func(int, int) bool { calls++; return calls < 3 })
	if calls != 3 {
		t.Errorf("%d calls", calls)
	}
	d.All()(nil)
}

// P24.2: every id there is, rejected; the first and the last one among them.
func TestAllRejected(t *testing.T) {
	d := desk.New(1, 50, 3)
	for i := range api.MaxId {
		d.Submit(wrong(1+(i*377)%api.MaxId, 2))
	}
	next := 1
	for id, status := range d.All() {
		if id != next || status != api.SRejected {
			t.Fatalf("%d, %d; want %d", id, status, next)
		}
		holdOne(t, "all", d, id, api.SRejected, "rejected")
		next++
	}
	if next != 1000 || d.Open() != 0 {
		t.Errorf("it ends ahead of %d; %d are open", next, d.Open())
	}
	for _, id := range noIds {
		holdOne(t, "none", d, id, api.SNone, "")
	}
}

// P24.2: what the loop does to the desk is not seen in it, and what was told to
// range over can be gone over again.
func TestAllInTheLoop(t *testing.T) {
	d := desk.New(64, 4096, 3)
	for _, id := range []int{5, 3, 9} {
		d.Submit(made(id, 0))
		d.Submit(wrong(id+10, 0))
	}
	all, want := d.All(), "3=2 5=2 9=2 13=8 15=8 19=8 "
	for range 2 {
		got := ""
		for id, status := range all {
			got += fmt.Sprint(id, "=", status, " ")
			d.Submit(made(id+1, 0))
			d.Submit(made(id, 0))
			d.Submit(wrong(id+2, 0))
			d.Chief().Crash(0, 0)
		}
		if got != want {
			t.Errorf("the loop went over %q; want %q", got, want)
		}
		d.Chief().Start()
	}
}

// P24.2: d of forward d/n and u of undoing u/n, at each place of orders of none
// to three steps; a step that is done is none that is undone.
func TestShares(t *testing.T) {
	for steps := range api.MaxSteps + 1 {
		for done := range steps + 1 {
			d, o := desk.New(1, 50, 3), made(7, steps)
			d.Submit(o)
			for i := range done {
				act(d, o, fmt.Sprint("done", i))
			}
			what := fmt.Sprint(steps, " steps, done ", done)
			if done == steps {
				holdOne(t, what, d, 7, api.SPreparing, "preparing")
			} else {
				holdOne(t, what, d, 7, api.SForward, fmt.Sprintf("forward %d/%d", done, steps))
			}
			act(d, o, "cancel")
			for undone := range steps + 1 {
				holdOne(t, what, d, 7, api.SUndoing, fmt.Sprintf("undoing %d/%d", undone, steps))
				if undone < steps {
					act(d, o, fmt.Sprint("undone", steps-1-undone))
				}
			}
			acts(d, o, "ackS ackP")
			holdOne(t, what, d, 7, api.SAborted, "aborted")
		}
	}
}

// P24.2: all steps are done, and there is no room to ask: it is forward n/n.
func TestAllDone(t *testing.T) {
	for steps := range api.MaxSteps + 1 {
		d, o := desk.New(1, 1+2*steps, 3), made(7, steps)
		d.Submit(o)
		for i := range steps {
			act(d, o, fmt.Sprint("done", i))
		}
		holdOne(t, steps, d, 7, api.SForward, fmt.Sprintf("forward %d/%d", steps, steps))
	}
}

// P24.2: whose damage it is: of one keeper, of the other, of both, in whatever
// order they told it, with steps done or undone, decided for it and against it.
func TestDamage(t *testing.T) {
	for words, want := range map[string]string{
		"damageS": "damaged stock", "damageP": "damaged purse",
		"damageS damageP": "damaged stock purse", "damageP damageS": "damaged stock purse",
		"ackS damageP": "damaged purse", "ackP damageS": "damaged stock", "ackS damageS": "damaged stock",
		"damageS damageS": "damaged stock", "damageP ackP ackS": "damaged purse",
	} {
		for _, way := range []string{"done0 done1 yesS yesP", "done0 done1 yesP yesS shipped", "cancel", "done0 fail1 undone1", "done0 done1 noS undone1 undone0"} {
			d, o, what := desk.New(1, 50, 3), made(7, 2), way+" "+words
			acts(d, o, "submit "+what)
			holdOne(t, what, d, 7, api.SDamaged, want)
			acts(d, o, "ackS ackP shipped undone1 undone0")
			holdOne(t, what, d, 7, api.SDamaged, want)
			holdAll(t, what, d, "7=7", 0)
			act(d, o, "accept")
			if strings.Contains(way, "yes") {
				holdOne(t, what, d, 7, api.SShipped, "shipped")
			} else {
				holdOne(t, what, d, 7, api.SAborted, "aborted")
			}
		}
	}
}

// P24.2: what is no id, and an id of which there is nothing.
func TestNoOrder(t *testing.T) {
	d := desk.New(3, 50, 3)
	for range 2 {
		for _, id := range append([]int{1, 2, 6, 8, 500, 998, 999}, noIds...) {
			holdOne(t, "none", d, id, api.SNone, "")
		}
		d.Submit(made(7, 1))
		d.Submit(wrong(9, 1))
	}
	holdAll(t, "two", d, "7=1 9=8", 1)
}

// P24.1, P24.2: a nil desk.
func TestNil(t *testing.T) {
	var d *desk.Desk
	for range 2 {
		for _, id := range append([]int{1, 7, 999}, noIds...) {
			holdSubmit(t, "nil", d, made(id, 0), api.ErrArg)
			holdSubmit(t, "nil", d, wrong(id, 3), api.ErrArg)
			holdOne(t, "nil", d, id, api.SNone, "")
		}
		holdSubmit(t, "nil", d, api.Order{}, api.ErrArg)
		holdAll(t, "nil", d, "", 0)
		d.All()(nil)
		if d.Chief() != nil {
			t.Error("it has a chief")
		}
	}
}

// R3: nor does a desk that New did not make panic, or let anybody in.
func TestNotMade(t *testing.T) {
	d := new(desk.Desk)
	for range 2 {
		holdSubmit(t, "not made", d, made(7, 1), api.ErrArg)
		holdSubmit(t, "not made", d, wrong(8, 1), api.ErrArg)
		holdOne(t, "not made", d, 7, api.SNone, "")
		holdOne(t, "not made", d, 8, api.SNone, "")
		holdAll(t, "not made", d, "", 0)
		if d.Chief() != nil {
			t.Error("it has a chief")
		}
	}
}

// R2: what was handed in and what was told is the caller's own.
func TestOwnMemory(t *testing.T) {
	d, o := desk.New(2, 50, 3), made(7, 2)
	steps := append(slices.Clone(o.Steps), api.Step{Service: 99, N: 99})
	o.Steps = steps[:2]
	told, _ := d.Submit(o)
	if !slices.Equal(steps, append(made(7, 2).Steps[:2:2], api.Step{Service: 99, N: 99})) {
		t.Errorf("what was handed in is %v", steps)
	}
	clear(steps)
	clear(told[:cap(told)])
	holdOne(t, "handed in", d, 7, api.SForward, "forward 0/2")
	if l := d.Chief().Ring(7); len(l) != 1 || l[0].To != api.Fraud || l[0].A != 3 {
		t.Errorf("what is needed is %+v", l)
	}
	acts(d, made(7, 2), "done0 done1")
	holdOne(t, "handed in", d, 7, api.SPreparing, "preparing")
}

// P24.1: each desk has a chief of its own, the same one each time.
func TestChief(t *testing.T) {
	d, other := desk.New(2, 50, 3), desk.New(2, 50, 3)
	if d.Chief() == nil || d.Chief() != d.Chief() || d.Chief() == other.Chief() {
		t.Error("whose chief is it?")
	}
	d.Submit(made(7, 0))
	d.Submit(wrong(8, 0))
	holdAll(t, "the other one", other, "", 0)
	d.Chief().Crash(0, 0)
	if other.Chief().Down() {
		t.Error("the other one's chief is down")
	}
	d.Chief().Start()
	// What the chief leads is told, whoever let it in there.
	d.Chief().Begin(made(5, 2))
	holdOne(t, "begun at the chief", d, 5, api.SForward, "forward 0/2")
	holdAll(t, "begun at the chief", d, "5=1 7=1 8=8", 2)
	holdSubmit(t, "begun at the chief", d, made(5, 2), api.ErrTwice)
}
