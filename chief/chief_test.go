package chief_test

import (
	"fmt"
	"slices"
	"strings"
	"testing"

	"wharfinger/api"
	"wharfinger/chief"
	"wharfinger/order"
	"wharfinger/saga"
)

// most is the greatest amount.
const most = 1000000000

// made is an order of so many steps, whose services do not rise.
func made(id, steps int) api.Order {
	all := []api.Step{{Service: api.Fraud, N: 3}, {Service: api.Coupon, N: 1}, {Service: api.Credit, N: most}}
	return api.Order{Id: id, Item: 2, Qty: 5, Client: 3, Price: 100, Steps: all[:steps]}
}

// keeperOf is the node that the last letter of a word names.
func keeperOf(word string) int {
	return map[byte]int{'S': api.Stock, 'P': api.Purse}[word[len(word)-1]]
}

// stepOf is the step that the last letter of a word names.
func stepOf(word string) int { return int(word[len(word)-1] - '0') }

// sent is the message that a word of what is sent names: do0, undo0, askS,
// commitS, abortS, ship; damagedS, commitsS, abortsS.
func sent(o api.Order, word string) api.Msg {
	m := api.Msg{From: api.Chief, Id: o.Id}
	switch name := strings.TrimRight(word, "012SP"); name {
	case "do":
		m.Kind, m.Step = api.MDo, stepOf(word)
		m.To, m.A = o.Steps[m.Step].Service, o.Steps[m.Step].N
	case "undo":
		m.Kind, m.Step = api.MUndo, stepOf(word)
		m.To = o.Steps[m.Step].Service
	case "ask":
		m.Kind, m.To, m.A, m.B = api.MPrepare, keeperOf(word), o.Item, o.Qty
		if m.To == api.Purse {
			m.A, m.B = o.Client, o.Price
		}
	case "ship":
		m.Kind, m.To, m.A, m.B = api.MShip, api.Shipper, o.Item, o.Qty
	default:
		m.Kind = map[string]int{"commit": api.MCommit, "abort": api.MAbort, "damaged": api.MDamaged, "commits": api.MCommits, "aborts": api.MAborts}[name]
		m.To = keeperOf(word)
	}
	return m
}

// sends are the messages that words name.
func sends(o api.Order, words string) []api.Msg {
	var l []api.Msg
	for _, word := range strings.Fields(words) {
		l = append(l, sent(o, word))
	}
	return l
}

// Kinds of steps.
const (
	handles = iota
	begins
	cancels
	accepts
	rings
	goesDown
	starts
)

// step is a message, another call, a crash or a start.
type step struct {
	kind  int
	m     api.Msg
	o     api.Order
	id    int
	crash crash
}

func (s step) String() string {
	switch s.kind {
	case begins:
		return fmt.Sprintf("Begin(%v)", s.o)
	case cancels:
		return fmt.Sprintf("Cancel(%d)", s.id)
	case accepts:
		return fmt.Sprintf("Accept(%d)", s.id)
	case rings:
		return fmt.Sprintf("Ring(%d)", s.id)
	case goesDown:
		return fmt.Sprintf("Crash(%d, %d)", s.crash.stay, s.crash.torn)
	case starts:
		return "Start"
	}
	return fmt.Sprintf("%+v", s.m)
}

// heard is the message to the chief that a word names: done0, fail0, undone0,
// yesS, noS, ackS, damageS, queryS, shipped.
func heard(o api.Order, word string) api.Msg {
	m := api.Msg{To: api.Chief, Id: o.Id}
	name := strings.TrimRight(word, "012SP")
	m.Kind = map[string]int{
		"done": api.MDone, "fail": api.MFail, "undone": api.MUndone, "yes": api.MYes, "no": api.MNo,
		"ack": api.MAck, "damage": api.MDamage, "query": api.MAsk, "shipped": api.MShipped,
	}[name]
	switch name {
	case "done", "fail", "undone":
		m.Step = stepOf(word)
		m.From = o.Steps[m.Step].Service
	case "shipped":
		m.From = api.Shipper
	default:
		m.From = keeperOf(word)
	}
	return m
}

// taken is the step that a word names, about an order.
func taken(o api.Order, word string) step {
	switch word {
	case "begin":
		return step{kind: begins, o: o}
	case "cancel":
		return step{kind: cancels, id: o.Id}
	case "accept":
		return step{kind: accepts, id: o.Id}
	case "ring":
		return step{kind: rings, id: o.Id}
	case "start":
		return step{kind: starts}
	case "crash0", "crash1", "crash2", "crash9":
		return step{kind: goesDown, crash: crash{stay: stepOf(word)}}
	}
	return step{m: heard(o, word)}
}

// on takes a step.
func (s step) on(n *chief.Node) ([]api.Msg, api.Errno) {
	switch s.kind {
	case begins:
		return n.Begin(s.o)
	case cancels:
		return n.Cancel(s.id)
	case accepts:
		return nil, n.Accept(s.id)
	case rings:
		return n.Ring(s.id), api.OK
	case goesDown:
		n.Crash(s.crash.stay, s.crash.torn)
		return nil, api.OK
	case starts:
		n.Start()
		return nil, api.OK
	}
	return n.Handle(s.m), api.OK
}

// onPlain takes a step with a plain chief.
func (s step) onPlain(p *plain) ([]api.Msg, api.Errno) {
	switch s.kind {
	case begins:
		return p.begin(s.o)
	case cancels:
		return p.cancel(s.id)
	case accepts:
		return nil, p.accept(s.id)
	case rings:
		return p.ring(s.id), api.OK
	case goesDown:
		p.crash(s.crash)
		return nil, api.OK
	case starts:
		p.start()
		return nil, api.OK
	}
	return p.handle(s.m), api.OK
}

// holdStep holds what a step tells.
func holdStep(t *testing.T, what any, n *chief.Node, s step, want []api.Msg, no api.Errno) {
	t.Helper()
	if got, e := s.on(n); !slices.Equal(got, want) || e != no {
		t.Errorf("%v: %v tells %+v, %d; want %+v, %d", what, s, got, e, want, no)
	}
}

// factsText is facts as a text: the steps that are done, and undone, by letters,
// and the names of all else that is so.
func factsText(f saga.Facts) string {
	s := ""
	for _, l := range [][]bool{f.Done, f.Undone} {
		for _, yes := range l {
			if yes {
				s += "x"
			} else {
				s += "-"
			}
		}
		s += "/"
	}
	for _, w := range []struct {
		is   bool
		name string
	}{
		{f.Asked, " asked"}, {f.Yes, " yes"}, {f.Turned, " turned"}, {f.Acks[0], " ackS"}, {f.Acks[1], " ackP"},
		{f.Shipped, " shipped"}, {f.Damage[0], " damageS"}, {f.Damage[1], " damageP"}, {f.Accepted, " accepted"},
	} {
		if w.is {
			s += w.name
		}
	}
	return s
}

// nodeText is all that is to be seen of a chief without ringing.
func nodeText(n *chief.Node) string {
	s := fmt.Sprint("down ", n.Down(), "; ")
	for id := range n.Ids() {
		o, f, ok := n.Facts(id)
		s += fmt.Sprint(n.State(id), " ", o, " ", factsText(f), "; ")
		if !ok || o.Id != id {
			s += fmt.Sprint("what is ", id, "? ")
		}
	}
	return s
}

// holdOrder holds the state and the facts of an order.
func holdOrder(t *testing.T, what any, n *chief.Node, o api.Order, state int, facts string) {
	t.Helper()
	got, f, ok := n.Facts(o.Id)
	if fmt.Sprint(got) != fmt.Sprint(o) || factsText(f) != facts || !ok {
		t.Errorf("%v: it is %v, %q, %t; want %v, %q", what, got, factsText(f), ok, o, facts)
	}
	if n.State(o.Id) != state {
		t.Errorf("%v: the state of %d is %d; want %d", what, o.Id, n.State(o.Id), state)
	}
}

// holdNone holds that nothing is known of an order.
func holdNone(t *testing.T, what any, n *chief.Node, id int) {
	t.Helper()
	o, f, ok := n.Facts(id)
	if ok || !order.Same(o, api.Order{}) || factsText(f) != "//" || n.State(id) != api.SNone {
		t.Errorf("%v: of %d it knows %v, %v, %t, %d", what, id, o, f, ok, n.State(id))
	}
}

// holdIds holds which orders there are.
func holdIds(t *testing.T, what any, n *chief.Node, ids ...int) {
	t.Helper()
	if got := slices.Collect(n.Ids()); !slices.Equal(got, ids) {
		t.Errorf("%v: the ids are %v; want %v", what, got, ids)
	}
}

// tale is a step, what is sent, and what is behind it.
type tale struct {
	word, sends string
	state       int
	facts       string
}

// story is the way of one order of so many steps.
type story struct {
	name  string
	steps int
	tales []tale
}

// stories are the whole ways of orders; none has an end that a bell brings.
var stories = []story{
	{"no steps, for it", 0, []tale{
		{"begin", "askS askP", api.SPreparing, "// asked"},
		{"yesP", "", api.SPreparing, "// asked"},
		{"yesS", "commitS commitP ship", api.SCommitted, "// asked yes"},
		{"ackS", "commitP ship", api.SCommitted, "// asked yes ackS"},
		{"ackP", "ship", api.SCommitted, "// asked yes ackS ackP"},
		{"shipped", "", api.SShipped, "// asked yes ackS ackP shipped"},
	}},
	{"one step, for it", 1, []tale{
		{"begin", "do0", api.SForward, "-/-/"},
		{"done0", "askS askP", api.SPreparing, "x/-/ asked"},
		{"yesS", "", api.SPreparing, "x/-/ asked"},
		{"yesP", "commitS commitP ship", api.SCommitted, "x/-/ asked yes"},
		{"shipped", "commitS commitP", api.SCommitted, "x/-/ asked yes shipped"},
		{"ackP", "commitS", api.SCommitted, "x/-/ asked yes ackP shipped"},
		{"ackS", "", api.SShipped, "x/-/ asked yes ackS ackP shipped"},
	}},
	{"three steps, for it", 3, []tale{
		{"begin", "do0", api.SForward, "---/---/"},
		{"done0", "do1", api.SForward, "x--/---/"},
		{"done1", "do2", api.SForward, "xx-/---/"},
		{"done2", "askS askP", api.SPreparing, "xxx/---/ asked"},
		{"yesP", "", api.SPreparing, "xxx/---/ asked"},
		{"yesS", "commitS commitP ship", api.SCommitted, "xxx/---/ asked yes"},
		{"ackP", "commitS ship", api.SCommitted, "xxx/---/ asked yes ackP"},
		{"shipped", "commitS", api.SCommitted, "xxx/---/ asked yes ackP shipped"},
		{"ackS", "", api.SShipped, "xxx/---/ asked yes ackS ackP shipped"},
	}},
	{"two steps, the first one fails", 2, []tale{
		{"begin", "do0", api.SForward, "--/--/"},
		{"fail0", "abortS abortP undo1", api.SUndoing, "--/--/ turned"},
		{"undone1", "abortS abortP undo0", api.SUndoing, "--/-x/ turned"},
		{"undone0", "abortS abortP", api.SUndoing, "--/xx/ turned"},
		{"ackP", "abortS", api.SUndoing, "--/xx/ turned ackP"},
		{"ackS", "", api.SAborted, "--/xx/ turned ackS ackP"},
	}},
	{"three steps, the last one fails", 3, []tale{
		{"begin", "do0", api.SForward, "---/---/"},
		{"done0", "do1", api.SForward, "x--/---/"},
		{"done1", "do2", api.SForward, "xx-/---/"},
		{"fail2", "abortS abortP undo2", api.SUndoing, "xx-/---/ turned"},
		{"ackS", "abortP undo2", api.SUndoing, "xx-/---/ turned ackS"},
		{"undone2", "abortP undo1", api.SUndoing, "xx-/--x/ turned ackS"},
		{"ackP", "undo1", api.SUndoing, "xx-/--x/ turned ackS ackP"},
		{"undone1", "undo0", api.SUndoing, "xx-/-xx/ turned ackS ackP"},
		{"undone0", "", api.SAborted, "xx-/xxx/ turned ackS ackP"},
	}},
	{"one step, cancelled at once", 1, []tale{
		{"begin", "do0", api.SForward, "-/-/"},
		{"cancel", "abortS abortP undo0", api.SUndoing, "-/-/ turned"},
		{"ackS", "abortP undo0", api.SUndoing, "-/-/ turned ackS"},
		{"undone0", "abortP", api.SUndoing, "-/x/ turned ackS"},
		{"ackP", "", api.SAborted, "-/x/ turned ackS ackP"},
	}},
	{"two steps, cancelled when it is asked, and damaged", 2, []tale{
		{"begin", "do0", api.SForward, "--/--/"},
		{"done0", "do1", api.SForward, "x-/--/"},
		{"done1", "askS askP", api.SPreparing, "xx/--/ asked"},
		{"yesS", "", api.SPreparing, "xx/--/ asked"},
		{"cancel", "abortS abortP undo1", api.SUndoing, "xx/--/ asked turned"},
		{"damageS", "damagedS abortP undo1", api.SDamaged, "xx/--/ asked turned ackS damageS"},
		{"ackP", "undo1", api.SDamaged, "xx/--/ asked turned ackS ackP damageS"},
		{"undone1", "undo0", api.SDamaged, "xx/-x/ asked turned ackS ackP damageS"},
		{"undone0", "", api.SDamaged, "xx/xx/ asked turned ackS ackP damageS"},
		{"accept", "", api.SAborted, "xx/xx/ asked turned ackS ackP damageS accepted"},
	}},
	{"no steps, stock says no", 0, []tale{
		{"begin", "askS askP", api.SPreparing, "// asked"},
		{"noS", "abortS abortP", api.SUndoing, "// asked turned"},
		{"ackP", "abortS", api.SUndoing, "// asked turned ackP"},
		{"damageS", "damagedS", api.SDamaged, "// asked turned ackS ackP damageS"},
		{"accept", "", api.SAborted, "// asked turned ackS ackP damageS accepted"},
	}},
	{"one step, money says yes and then no", 1, []tale{
		{"begin", "do0", api.SForward, "-/-/"},
		{"done0", "askS askP", api.SPreparing, "x/-/ asked"},
		{"yesP", "", api.SPreparing, "x/-/ asked"},
		{"noP", "abortS abortP undo0", api.SUndoing, "x/-/ asked turned"},
		{"undone0", "abortS abortP", api.SUndoing, "x/x/ asked turned"},
		{"ackS", "abortP", api.SUndoing, "x/x/ asked turned ackS"},
		{"ackP", "", api.SAborted, "x/x/ asked turned ackS ackP"},
	}},
	{"two steps, one that was done fails when all are asked", 2, []tale{
		{"begin", "do0", api.SForward, "--/--/"},
		{"done0", "do1", api.SForward, "x-/--/"},
		{"done1", "askS askP", api.SPreparing, "xx/--/ asked"},
		{"fail0", "abortS abortP undo1", api.SUndoing, "xx/--/ asked turned"},
		{"ackS", "abortP undo1", api.SUndoing, "xx/--/ asked turned ackS"},
		{"ackP", "undo1", api.SUndoing, "xx/--/ asked turned ackS ackP"},
		{"undone1", "undo0", api.SUndoing, "xx/-x/ asked turned ackS ackP"},
		{"undone0", "", api.SAborted, "xx/xx/ asked turned ackS ackP"},
	}},
	{"one step, for it, and both are damaged", 1, []tale{
		{"begin", "do0", api.SForward, "-/-/"},
		{"done0", "askS askP", api.SPreparing, "x/-/ asked"},
		{"yesS", "", api.SPreparing, "x/-/ asked"},
		{"yesP", "commitS commitP ship", api.SCommitted, "x/-/ asked yes"},
		{"damageP", "damagedP commitS ship", api.SDamaged, "x/-/ asked yes ackP damageP"},
		{"accept", "", api.SCommitted, "x/-/ asked yes ackP damageP accepted"},
		{"damageS", "damagedS ship", api.SCommitted, "x/-/ asked yes ackS ackP damageS damageP accepted"},
		{"shipped", "", api.SShipped, "x/-/ asked yes ackS ackP shipped damageS damageP accepted"},
	}},
	{"no steps, for it, and damaged behind an ack", 0, []tale{
		{"begin", "askS askP", api.SPreparing, "// asked"},
		{"yesS", "", api.SPreparing, "// asked"},
		{"yesP", "commitS commitP ship", api.SCommitted, "// asked yes"},
		{"ackP", "commitS ship", api.SCommitted, "// asked yes ackP"},
		{"damageP", "damagedP commitS ship", api.SDamaged, "// asked yes ackP damageP"},
		{"ackS", "ship", api.SDamaged, "// asked yes ackS ackP damageP"},
		{"shipped", "", api.SDamaged, "// asked yes ackS ackP shipped damageP"},
		{"damageS", "damagedS", api.SDamaged, "// asked yes ackS ackP shipped damageS damageP"},
		{"accept", "", api.SShipped, "// asked yes ackS ackP shipped damageS damageP accepted"},
	}},
}

// holdTale holds that a tale happens, and what is behind it.
func holdTale(t *testing.T, what any, n *chief.Node, o api.Order, s tale) {
	t.Helper()
	holdStep(t, what, n, taken(o, s.word), sends(o, s.sends), api.OK)
	holdOrder(t, what, n, o, s.state, s.facts)
}

// P22.1 to P22.4: orders go their whole way, for it, and turning at each place
// of it; what is sent, and State and Facts behind each step.
func TestStories(t *testing.T) {
	for _, s := range stories {
		for _, id := range []int{1, 7, 500, 998, 999} {
			n, o := chief.New(1, 50, 3), made(id, s.steps)
			for i, x := range s.tales {
				holdTale(t, fmt.Sprint(s.name, ", ", i), n, o, x)
				holdIds(t, s.name, n, id)
			}
			if l := n.Ring(id); len(l) != 0 {
				t.Errorf("%s: behind its end %+v is sent", s.name, l)
			}
		}
	}
}

// P22.2: the chapter's example.
func TestExample(t *testing.T) {
	n, o := chief.New(1, 50, 3), made(7, 0)
	l, e := n.Begin(o)
	if !slices.Equal(l, sends(o, "askS askP")) || e != api.OK {
		t.Errorf("Begin: %+v, %d", l, e)
	}
	if l := n.Handle(api.Msg{Kind: api.MNo, From: api.Purse, To: api.Chief, Id: 7}); !slices.Equal(l, sends(o, "abortS abortP")) {
		t.Errorf("MNo: %+v", l)
	}
}

// P22.1 to P22.4: all stories at a time, one step of each in turn: each order
// stands alone.
func TestSeveral(t *testing.T) {
	n := chief.New(len(stories), 400, 3)
	var ids []int
	for i := range 12 {
		for k, s := range stories {
			if i >= len(s.tales) {
				continue
			}
			// Neither rising nor falling.
			id := 1 + 377*(k+1)%api.MaxId
			holdTale(t, fmt.Sprint(s.name, ", ", i), n, made(id, s.steps), s.tales[i])
			if i == 0 {
				ids = append(ids, id)
				slices.Sort(ids)
				holdIds(t, s.name, n, ids...)
			}
		}
	}
	for k, s := range stories {
		last := s.tales[len(s.tales)-1]
		holdOrder(t, s.name, n, made(1+377*(k+1)%api.MaxId, s.steps), last.state, last.facts)
	}
}

// P22.2: the same message once more, behind each step of each story: nothing is
// told and nothing changes, but that damage is answered; a no, a fail of what is
// turned comes to nothing too.
func TestOnceMore(t *testing.T) {
	for _, s := range stories {
		n, o := chief.New(1, 50, 3), made(7, s.steps)
		for i, x := range s.tales {
			what := fmt.Sprint(s.name, ", ", i, " once more")
			holdTale(t, what, n, o, x)
			want, no := "", api.OK
			switch {
			case strings.HasPrefix(x.word, "damage"):
				want = "damaged" + x.word[len(x.word)-1:]
			case x.word == "begin":
				no = api.ErrTwice
			case x.word == "cancel" || x.word == "accept":
				no = api.ErrState
			}
			for range 3 {
				holdStep(t, what, n, taken(o, x.word), sends(o, want), no)
				holdOrder(t, what, n, o, x.state, x.facts)
			}
			for _, was := range s.tales[1 : i+1] {
				if was.word != "cancel" && was.word != "accept" && !strings.HasPrefix(was.word, "damage") {
					holdStep(t, what, n, taken(o, was.word), nil, api.OK)
				}
			}
			holdOrder(t, what, n, o, x.state, x.facts)
		}
	}
}

// P22.2: MAsk of each keeper behind each step: what is decided is told to who
// asks, and nothing ahead of that; nothing changes.
func TestAsked(t *testing.T) {
	for _, s := range stories {
		n, o := chief.New(1, 50, 3), made(7, s.steps)
		for i, x := range s.tales {
			what := fmt.Sprint(s.name, ", ", i)
			for _, who := range []string{"S", "P"} {
				want := ""
				switch {
				case i == 0 || strings.Contains(s.tales[i-1].facts, "turned"):
					want = "aborts" + who
				case strings.Contains(s.tales[i-1].facts, "yes"):
					want = "commits" + who
				}
				before := nodeText(n)
				holdStep(t, what, n, taken(o, "query"+who), sends(o, want), api.OK)
				if nodeText(n) != before {
					t.Errorf("%s: it was %s, and is %s", what, before, nodeText(n))
				}
			}
			holdTale(t, what, n, o, x)
		}
	}
}

// P22.4: Ids rising, whatever they began by; a loop that ends early ends.
func TestIds(t *testing.T) {
	n := chief.New(64, 4096, 3)
	holdIds(t, "new", n)
	var ids []int
	for i := range 64 {
		id := 1 + 377*(i+1)%api.MaxId
		if _, e := n.Begin(made(id, i%4)); e != api.OK {
			t.Fatalf("Begin of %d: %d", id, e)
		}
		ids = append(ids, id)
	}
	slices.Sort(ids)
	holdIds(t, "64", n, ids...)
	for end := 1; end <= 64; end++ {
		var got []int
		for id := range n.Ids() {
			got = append(got, id)
			if len(got) == end {
				break
			}
		}
		if !slices.Equal(got, ids[:end]) {
			t.Errorf("a loop of %d: %v", end, got)
		}
	}
	// A function that goes on behind its end is not asked for more.
	calls := 0
	n.Ids()(func(int) bool { calls++; return calls < 3 })
	if calls != 3 {
		t.Errorf("%d calls", calls)
	}
	n.Ids()(nil)
}

// P22.4: what the loop does to the node is not seen in it.
func TestIdsInTheLoop(t *testing.T) {
	n := chief.New(64, 4096, 3)
	for _, id := range []int{5, 3, 9} {
		n.Begin(made(id, 0))
	}
	var got []int
	for id := range n.Ids() {
		got = append(got, id)
		n.Begin(made(id+1, 0))
		n.Crash(0, 0)
		n.Start()
	}
	if !slices.Equal(got, []int{3, 5, 9}) {
		t.Errorf("the loop went over %v", got)
	}
	holdIds(t, "behind the loop", n, 3, 4, 5, 6, 9, 10)
}

// places are words that lead an order of two steps to each place of its way.
var places = []string{
	"", "done0", "done0 done1", "done0 done1 yesS", "done0 done1 yesP", "done0 done1 crash2 start", "done0 crash0 start",
	"done0 done1 yesS yesP", "done0 done1 yesP yesS ackS", "done0 done1 yesS yesP ackP", "done0 done1 yesS yesP ackP ackS",
	"done0 done1 yesS yesP shipped", "done0 done1 yesS yesP shipped ackP", "done0 done1 yesS yesP shipped ackP ackS",
	"done0 done1 yesS yesP damageS", "done0 done1 yesS yesP damageP accept", "done0 done1 yesS yesP ackS damageS damageP",
	"done0 done1 yesS yesP damageS ackP shipped", "done0 done1 yesS yesP damageS ackP shipped accept", "done0 done1 yesS yesP damageS damageP shipped",
	"cancel", "done0 fail1", "done0 done1 noS", "done0 done1 yesS yesS fail0", "cancel undone1", "done0 fail1 undone1", "cancel undone1 undone0",
	"cancel ackS", "cancel ackP", "done0 done1 noP ackS ackP", "done0 done1 noP ackP undone1", "cancel ackS ackP undone1", "cancel ackS ackP undone1 undone0",
	"cancel damageS", "cancel damageP undone1", "cancel damageS damageP", "cancel damageS accept", "cancel damageP ackS undone1 undone0",
	"cancel damageP ackS undone1 undone0 accept", "ring ring ring ring", "done0 done1 ring ring ring ring", "done0 done1 yesS crash9 start",
	"ring", "ring ring ring", "done0 done1 ring ring ring", "cancel ring ring ring", "done0 done1 yesS yesP ring ring ring",
}
