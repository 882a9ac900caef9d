package saga_test

import (
	"math"
	"slices"
	"strconv"
	"strings"
	"testing"

	"wharfinger/api"
	"wharfinger/flow"
	"wharfinger/saga"
)

var both = [2]bool{true, true}

// made is an order of so many steps, whose services do not rise.
func made(steps int) api.Order {
	all := []api.Step{{Service: api.Fraud, N: 3}, {Service: api.Coupon, N: 1}, {Service: api.Credit, N: api.MaxAmount}}
	return api.Order{Id: 7, Item: 2, Qty: 5, Client: 3, Price: 100, Steps: all[:steps]}
}

// are tells by letters which steps are so: x, or not: -.
func are(letters string) []bool {
	var l []bool
	for _, c := range letters {
		l = append(l, c == 'x')
	}
	return l
}

// texts are messages as texts: all their numbers, by name of the kind.
func texts(l []api.Msg) string {
	names := map[int]string{api.MDo: "do", api.MUndo: "undo", api.MPrepare: "prepare", api.MCommit: "commit", api.MAbort: "abort", api.MShip: "ship"}
	var all []string
	for _, m := range l {
		words := []string{names[m.Kind]}
		for _, n := range []int{m.From, m.To, m.Id, m.Step, m.A, m.B} {
			words = append(words, strconv.Itoa(n))
		}
		all = append(all, strings.Join(words, " "))
	}
	return strings.Join(all, "; ")
}

// What is sent of made, as texts: from, to, the id, the step, A, B.
const (
	prepares = "prepare 0 1 7 0 2 5; prepare 0 2 7 0 3 100"
	commitS  = "commit 0 1 7 0 0 0"
	commitP  = "commit 0 2 7 0 0 0"
	abortS   = "abort 0 1 7 0 0 0"
	abortP   = "abort 0 2 7 0 0 0"
	ships    = "ship 0 3 7 0 2 5"
	do0      = "do 0 6 7 0 3 0"
	do1      = "do 0 4 7 1 1 0"
	do2      = "do 0 5 7 2 1000000000 0"
	undo0    = "undo 0 6 7 0 0 0"
	undo1    = "undo 0 4 7 1 0 0"
	undo2    = "undo 0 5 7 2 0 0"
)

// answers is what all calls tell of an order.
type answers struct {
	may   bool
	state int
	over  bool
	next  string
}

func ask(o api.Order, f saga.Facts) answers {
	return answers{saga.May(o, f), saga.State(o, f), saga.Over(o, f), texts(saga.Next(o, f))}
}

// hold holds what all calls tell against what they have to.
func hold(t *testing.T, o api.Order, f saga.Facts, want answers) {
	t.Helper()
	if got := ask(o, f); got != want {
		t.Errorf("%v, %+v: %+v; want %+v", o, f, got, want)
	}
}

// holdNot holds that order and facts may not be, and nothing is to be sent.
func holdNot(t *testing.T, o api.Order, f saga.Facts) {
	t.Helper()
	hold(t, o, f, answers{})
	if got := saga.Next(o, f); len(got) != 0 {
		t.Errorf("%v, %+v: %v is to be sent", o, f, got)
	}
}

// P16.3: the example of the chapter.
func TestExample(t *testing.T) {
	got := saga.Next(made(0), saga.Facts{})
	want := []api.Msg{
		{Kind: api.MPrepare, From: api.Chief, To: api.Stock, Id: 7, A: 2, B: 5},
		{Kind: api.MPrepare, From: api.Chief, To: api.Purse, Id: 7, A: 3, B: 100},
	}
	if !slices.Equal(got, want) {
		t.Errorf("Next of nothing known = %v; want %v", got, want)
	}
}

// P16.1, P16.2, P16.3: the way forward: steps not begun, some done, all done,
// asked; also asked ahead of all being done.
func TestForward(t *testing.T) {
	for _, x := range []struct {
		done, next string
	}{
		{"", prepares},
		{"-", do0}, {"x", prepares},
		{"--", do0}, {"x-", do1}, {"xx", prepares},
		{"---", do0}, {"x--", do1}, {"xx-", do2}, {"xxx", prepares},
	} {
		o := made(len(x.done))
		for _, accepted := range []bool{false, true} {
			f := saga.Facts{Done: are(x.done), Undone: make([]bool, len(x.done)), Accepted: accepted}
			hold(t, o, f, answers{true, api.SForward, false, x.next})
			f.Asked = true
			hold(t, o, f, answers{true, api.SPreparing, false, x.next})
		}
	}
}

// P16.1, P16.2, P16.3: decided for it: acked by none, by one, by both, shipped
// or not.
func TestDecidedFor(t *testing.T) {
	for _, x := range []struct {
		acks    [2]bool
		shipped bool
		state   int
		next    string
	}{
		{[2]bool{}, false, api.SCommitted, commitS + "; " + commitP + "; " + ships},
		{[2]bool{true, false}, false, api.SCommitted, commitP + "; " + ships},
		{[2]bool{false, true}, false, api.SCommitted, commitS + "; " + ships},
		{both, false, api.SCommitted, ships},
		{[2]bool{}, true, api.SCommitted, commitS + "; " + commitP},
		{[2]bool{true, false}, true, api.SCommitted, commitP},
		{[2]bool{false, true}, true, api.SCommitted, commitS},
		{both, true, api.SShipped, ""},
	} {
		for steps := range api.MaxSteps + 1 {
			done := slices.Repeat([]bool{true}, steps)
			f := saga.Facts{Done: done, Undone: make([]bool, steps), Asked: true, Yes: true, Acks: x.acks, Shipped: x.shipped}
			holdDamage(t, made(steps), f, answers{true, x.state, x.state == api.SShipped, x.next})
		}
	}
}

// P16.1, P16.2, P16.3: decided against it: acked by none, by one, by both; any
// of the steps done, also a later one without an earlier one; undone from
// behind, one by one, whether they were done or not; asked or not.
func TestDecidedAgainst(t *testing.T) {
	for _, x := range []struct {
		undone, next string
	}{
		{"", ""},
		{"-", undo0}, {"x", ""},
		{"--", undo1}, {"-x", undo0}, {"xx", ""},
		{"---", undo2}, {"--x", undo1}, {"-xx", undo0}, {"xxx", ""},
	} {
		steps := len(x.undone)
		for done := range 1 << steps {
			f := saga.Facts{Done: bits(done, steps), Undone: are(x.undone), Turned: true}
			for _, f.Asked = range []bool{false, true} {
				holdAborts(t, made(steps), f, x.next)
			}
		}
	}
}

// bits are the lowest bits of n.
func bits(n, length int) []bool {
	l := make([]bool, length)
	for i := range l {
		l[i] = n>>i&1 == 1
	}
	return l
}

// holdAborts holds what is told of one that is turned, whoever acked, where
// that undo (or none) is left.
func holdAborts(t *testing.T, o api.Order, f saga.Facts, undo string) {
	t.Helper()
	for _, x := range []struct {
		acks [2]bool
		next []string
	}{
		{[2]bool{}, []string{abortS, abortP}},
		{[2]bool{true, false}, []string{abortP}},
		{[2]bool{false, true}, []string{abortS}},
		{both, nil},
	} {
		next := x.next
		if undo != "" {
			next = append(next, undo)
		}
		state := api.SUndoing
		if len(next) == 0 {
			state = api.SAborted
		}
		f.Acks = x.acks
		holdDamage(t, o, f, answers{true, state, state == api.SAborted, strings.Join(next, "; ")})
	}
}

// holdDamage holds what is told of one that is decided: without damage want,
// accepted or not; with damage of Stock, of Purse, of both the same, but
// damaged till it is accepted.
func holdDamage(t *testing.T, o api.Order, f saga.Facts, want answers) {
	t.Helper()
	damaged := want
	damaged.state = api.SDamaged
	for _, damage := range [][2]bool{{}, {true, false}, {false, true}, both} {
		f.Damage, f.Accepted = damage, true
		hold(t, o, f, want)
		f.Accepted = false
		if damage == [2]bool{} {
			hold(t, o, f, want)
		} else {
			hold(t, o, f, damaged)
		}
	}
}

// P16.1: facts that may not be, each for one cause.
func TestFactsMayNot(t *testing.T) {
	for _, x := range []struct {
		what  string
		steps int
		f     saga.Facts
	}{
		{"Done lacks", 1, saga.Facts{Undone: are("-")}},
		{"Undone lacks", 1, saga.Facts{Done: are("-")}},
		{"both lack", 1, saga.Facts{}},
		{"both lack, asked", 3, saga.Facts{Asked: true}},
		{"both lack, turned", 2, saga.Facts{Turned: true, Acks: both}},
		{"too few of Done", 2, saga.Facts{Done: are("x"), Undone: are("--")}},
		{"too few of Undone", 3, saga.Facts{Done: are("xx-"), Undone: are("--")}},
		{"too many of Done", 2, saga.Facts{Done: are("xx-"), Undone: are("--")}},
		{"too many of Undone", 2, saga.Facts{Done: are("xx"), Undone: are("---")}},
		{"too many of both", 1, saga.Facts{Done: are("x-"), Undone: are("--")}},
		{"Done of no steps", 0, saga.Facts{Done: are("-")}},
		{"Undone of no steps", 0, saga.Facts{Undone: are("-")}},
		{"one more and one less", 2, saga.Facts{Done: are("x"), Undone: are("---")}},
		{"Yes and Turned", 0, saga.Facts{Asked: true, Yes: true, Turned: true}},
		{"Yes and Turned, of steps", 2, saga.Facts{Done: are("xx"), Undone: are("--"), Asked: true, Yes: true, Turned: true}},
		{"Yes and Turned, at the end", 1, saga.Facts{Done: are("x"), Undone: are("x"), Asked: true, Yes: true, Turned: true, Acks: both, Shipped: true}},
		{"Yes without the only one done", 1, saga.Facts{Done: are("-"), Undone: are("-"), Asked: true, Yes: true}},
		{"Yes without the first one done", 3, saga.Facts{Done: are("-xx"), Undone: are("---"), Asked: true, Yes: true}},
		{"Yes without the middle one done", 3, saga.Facts{Done: are("x-x"), Undone: are("---"), Asked: true, Yes: true}},
		{"Yes without the last one done", 3, saga.Facts{Done: are("xx-"), Undone: are("---"), Asked: true, Yes: true}},
		{"Yes with the last one undone", 2, saga.Facts{Done: are("xx"), Undone: are("-x"), Asked: true, Yes: true}},
		{"Yes with all undone", 3, saga.Facts{Done: are("xxx"), Undone: are("xxx"), Asked: true, Yes: true, Acks: both, Shipped: true}},
		{"Yes without Asked", 0, saga.Facts{Yes: true}},
		{"Yes without Asked, of steps", 2, saga.Facts{Done: are("xx"), Undone: are("--"), Yes: true}},
		{"Yes without Asked, at the end", 0, saga.Facts{Yes: true, Acks: both, Shipped: true}},
		{"Undone without Turned", 1, saga.Facts{Done: are("x"), Undone: are("x")}},
		{"Undone without Turned, not done", 2, saga.Facts{Done: are("x-"), Undone: are("-x")}},
		{"Undone without Turned, asked", 3, saga.Facts{Done: are("xxx"), Undone: are("--x"), Asked: true}},
		{"an earlier one undone without a later one", 2, saga.Facts{Done: are("xx"), Undone: are("x-"), Turned: true}},
		{"an earlier one undone without a later one, not done", 2, saga.Facts{Done: are("x-"), Undone: are("x-"), Turned: true}},
		{"the first one undone without the last one", 3, saga.Facts{Done: are("xxx"), Undone: are("xx-"), Turned: true}},
		{"the first one and the last one undone", 3, saga.Facts{Done: are("xxx"), Undone: are("x-x"), Turned: true}},
		{"the middle one undone alone", 3, saga.Facts{Done: are("---"), Undone: are("-x-"), Turned: true, Acks: both}},
		{"Shipped ahead of all", 0, saga.Facts{Shipped: true}},
		{"Shipped, asked", 0, saga.Facts{Asked: true, Shipped: true}},
		{"Shipped, turned", 0, saga.Facts{Asked: true, Turned: true, Acks: both, Shipped: true}},
		{"Shipped, all done", 2, saga.Facts{Done: are("xx"), Undone: are("--"), Shipped: true}},
		{"Stock acked ahead of a decision", 0, saga.Facts{Acks: [2]bool{true, false}}},
		{"Purse acked ahead of a decision", 0, saga.Facts{Asked: true, Acks: [2]bool{false, true}}},
		{"both acked ahead of a decision", 1, saga.Facts{Done: are("x"), Undone: are("-"), Asked: true, Acks: both}},
		{"damage of Stock ahead of a decision", 0, saga.Facts{Damage: [2]bool{true, false}}},
		{"damage of Purse ahead of a decision", 0, saga.Facts{Asked: true, Damage: [2]bool{false, true}}},
		{"damage ahead of a decision, accepted", 0, saga.Facts{Asked: true, Damage: both, Accepted: true}},
		{"a later one done alone", 2, saga.Facts{Done: are("-x"), Undone: are("--")}},
		{"the last one done alone", 3, saga.Facts{Done: are("--x"), Undone: are("---")}},
		{"the last one done without the middle one", 3, saga.Facts{Done: are("x-x"), Undone: are("---"), Asked: true}},
		{"all done but the first one", 3, saga.Facts{Done: are("-xx"), Undone: are("---")}},
	} {
		t.Run(x.what, func(t *testing.T) {
			holdNot(t, made(x.steps), x.f)
			x.f.Accepted = !x.f.Accepted
			holdNot(t, made(x.steps), x.f)
		})
	}
}

// P16.1: an order that may not be, each for one cause, whatever is known of it.
func TestOrderMayNot(t *testing.T) {
	for what, change := range map[string]func(o *api.Order){
		"no id":                   func(o *api.Order) { o.Id = 0 },
		"an id too great":         func(o *api.Order) { o.Id = api.MaxId + 1 },
		"an item below nothing":   func(o *api.Order) { o.Item = -1 },
		"an item too great":       func(o *api.Order) { o.Item = api.MaxItems },
		"a client below nothing":  func(o *api.Order) { o.Client = math.MinInt },
		"a client too great":      func(o *api.Order) { o.Client = api.MaxItems },
		"none of the item":        func(o *api.Order) { o.Qty = 0 },
		"too many of the item":    func(o *api.Order) { o.Qty = api.MaxAmount + 1 },
		"no price":                func(o *api.Order) { o.Price = 0 },
		"a price too great":       func(o *api.Order) { o.Price = math.MaxInt },
		"a step of the shipper":   func(o *api.Order) { o.Steps[0].Service = api.Shipper },
		"a step of no node":       func(o *api.Order) { o.Steps[1].Service = api.Nodes },
		"a step of nothing":       func(o *api.Order) { o.Steps[1].N = 0 },
		"a step of too much":      func(o *api.Order) { o.Steps[0].N = api.MaxAmount + 1 },
		"two steps of a service":  func(o *api.Order) { o.Steps[1].Service = o.Steps[0].Service },
		"too many steps":          func(o *api.Order) { o.Steps = append(made(3).Steps, api.Step{Service: api.Coupon, N: 1}) },
		"far too many steps":      func(o *api.Order) { o.Steps = make([]api.Step, 1000) },
		"nothing but a good step": func(o *api.Order) { *o = api.Order{Steps: o.Steps[:1]} },
		"nothing at all":          func(o *api.Order) { *o = api.Order{} },
	} {
		t.Run(what, func(t *testing.T) {
			o := made(2)
			change(&o)
			steps := len(o.Steps)
			none, every := make([]bool, steps), slices.Repeat([]bool{true}, steps)
			holdNot(t, o, saga.Facts{})
			holdNot(t, o, saga.Facts{Done: none, Undone: none})
			holdNot(t, o, saga.Facts{Done: every, Undone: none, Asked: true})
			holdNot(t, o, saga.Facts{Done: every, Undone: none, Asked: true, Yes: true})
			holdNot(t, o, saga.Facts{Done: every, Undone: none, Asked: true, Yes: true, Acks: both, Shipped: true})
			holdNot(t, o, saga.Facts{Done: none, Undone: every, Turned: true, Acks: both})
			holdNot(t, o, saga.Facts{Done: every, Undone: every, Turned: true, Acks: both, Damage: both})
		})
	}
}

// P16.1, P16.3: the greatest and the least numbers that an order may have are
// sent as they are.
func TestNumbersAsTheyAre(t *testing.T) {
	o := api.Order{Id: api.MaxId, Item: api.MaxItems - 1, Qty: api.MaxAmount, Client: 0, Price: 1, Steps: []api.Step{{Service: api.Coupon, N: api.MaxAmount}, {Service: api.Fraud, N: 1}}}
	for _, x := range []struct {
		f    saga.Facts
		want string
	}{
		{saga.Facts{Done: are("--")}, "do 0 4 999 0 1000000000 0"},
		{saga.Facts{Done: are("x-")}, "do 0 6 999 1 1 0"},
		{saga.Facts{Done: are("xx")}, "prepare 0 1 999 0 7 1000000000; prepare 0 2 999 0 0 1"},
		{saga.Facts{Done: are("xx"), Asked: true, Yes: true, Acks: both}, "ship 0 3 999 0 7 1000000000"},
		{saga.Facts{Done: are("xx"), Asked: true, Yes: true, Shipped: true}, "commit 0 1 999 0 0 0; commit 0 2 999 0 0 0"},
		{saga.Facts{Done: are("x-"), Turned: true}, "abort 0 1 999 0 0 0; abort 0 2 999 0 0 0; undo 0 6 999 1 0 0"},
	} {
		x.f.Undone = are("--")
		if got := texts(saga.Next(o, x.f)); got != x.want {
			t.Errorf("Next of %+v = %s; want %s", x.f, got, x.want)
		}
	}
}

// everyFacts goes through all facts of so many of Done and of Undone.
func everyFacts(done, undone int, do func(f saga.Facts)) {
	for d := range 1 << done {
		for u := range 1 << undone {
			for rest := range 1 << 9 {
				b := bits(rest, 9)
				do(saga.Facts{
					Done: bits(d, done), Undone: bits(u, undone),
					Asked: b[0], Yes: b[1], Turned: b[2],
					Acks: [2]bool{b[3], b[4]}, Shipped: b[5],
					Damage: [2]bool{b[6], b[7]}, Accepted: b[8],
				})
			}
		}
	}
}

// wantMay is what the chapter asks of facts, one sentence behind the other.
func wantMay(steps int, f saga.Facts) bool {
	if len(f.Done) != steps || len(f.Undone) != steps || f.Yes && f.Turned || f.Shipped && !f.Yes || f.Yes && !f.Asked {
		return false
	}
	decided := f.Yes || f.Turned
	if !decided && (f.Acks[0] || f.Acks[1] || f.Damage[0] || f.Damage[1]) {
		return false
	}
	for i := range steps {
		if f.Yes && (!f.Done[i] || f.Undone[i]) || f.Undone[i] && !f.Turned {
			return false
		}
		for later := i + 1; later < steps; later++ {
			if f.Done[later] && !f.Done[i] && !f.Turned || f.Undone[i] && !f.Undone[later] {
				return false
			}
		}
	}
	return true
}

// wantEnd is how one that is decided ends, or what it is till then.
func wantEnd(steps int, f saga.Facts) int {
	ended := f.Acks[0] && f.Acks[1]
	if f.Yes && ended && f.Shipped {
		return api.SShipped
	} else if f.Yes {
		return api.SCommitted
	}
	for i := range steps {
		ended = ended && f.Undone[i]
	}
	if ended {
		return api.SAborted
	}
	return api.SUndoing
}

// wantState is what the chapter asks State to tell of what may be.
func wantState(steps int, f saga.Facts) int {
	if f.Yes || f.Turned {
		if (f.Damage[0] || f.Damage[1]) && !f.Accepted {
			return api.SDamaged
		}
		return wantEnd(steps, f)
	}
	if f.Asked {
		return api.SPreparing
	}
	return api.SForward
}

// wantNext is what the chapter asks to be sent of made, of what may be.
func wantNext(steps int, f saga.Facts) string {
	var next []string
	told, rest := [2]string{commitS, commitP}, ships
	if f.Turned {
		told, rest = [2]string{abortS, abortP}, ""
		for i := range steps {
			if !f.Undone[i] {
				rest = []string{undo0, undo1, undo2}[i]
			}
		}
	} else if !f.Yes {
		for i := range steps {
			if !f.Done[i] {
				return []string{do0, do1, do2}[i]
			}
		}
		return prepares
	} else if f.Shipped {
		rest = ""
	}
	for i, message := range told {
		if !f.Acks[i] {
			next = append(next, message)
		}
	}
	if rest != "" {
		next = append(next, rest)
	}
	return strings.Join(next, "; ")
}

// P16.1, P16.2, P16.3: all facts that there are, of as many steps as the order
// has, or one less or more.
func TestEveryFacts(t *testing.T) {
	met := map[int]int{}
	for steps := range api.MaxSteps + 1 {
		o := made(steps)
		for done := max(0, steps-1); done <= steps+1; done++ {
			for undone := max(0, steps-1); undone <= steps+1; undone++ {
				everyFacts(done, undone, func(f saga.Facts) {
					want := answers{}
					if wantMay(steps, f) {
						end := wantEnd(steps, f)
						want = answers{true, wantState(steps, f), end == api.SShipped || end == api.SAborted, wantNext(steps, f)}
					}
					met[want.state]++
					if got := ask(o, f); got != want {
						t.Fatalf("%d steps, %+v: %+v; want %+v", steps, f, got, want)
					}
				})
			}
		}
	}
	for state := api.SNone; state <= api.SDamaged; state++ {
		if met[state] == 0 {
			t.Errorf("state %d was not met", state)
		}
	}
}

// P16.4 (T2): where it is Over nothing is needed, and where it may be and is
// not Over something is.
func TestOverNeedsNothing(t *testing.T) {
	for steps := range api.MaxSteps + 1 {
		o, met := made(steps), 0
		everyFacts(steps, steps, func(f saga.Facts) {
			need, over := saga.Next(o, f), saga.Over(o, f)
			if over {
				met++
			}
			if saga.May(o, f) && over != (len(need) == 0) || over && !saga.May(o, f) {
				t.Fatalf("%d steps, %+v: Over %t, and %v is needed", steps, f, over, need)
			}
		})
		if met == 0 {
			t.Errorf("none of %d steps was Over", steps)
		}
	}
}

// P16.4 (T2): what is needed stands in flow's plan, or, if it is turned, in
// flow's way back, and in the order in which it stands there.
func TestNeedsStandInFlow(t *testing.T) {
	for steps := range api.MaxSteps + 1 {
		o := made(steps)
		plan, back := slices.Collect(flow.Plan(o)), slices.Collect(flow.Back(o))
		everyFacts(steps, steps, func(f saga.Facts) {
			way := plan
			if f.Turned {
				way = back
			}
			last := 0
			for _, m := range saga.Next(o, f) {
				at := slices.Index(way, api.Act{Kind: m.Kind, Step: m.Step})
				if at < last {
					t.Fatalf("%d steps, %+v: %v is needed, at %d of %v, behind %d", steps, f, m, at, way, last)
				}
				last = at
			}
		})
	}
}

// P16.4 (T2): damage, accepted or not, makes no difference to what is needed.
func TestDamageNeedsNothing(t *testing.T) {
	for steps := range api.MaxSteps + 1 {
		o := made(steps)
		everyFacts(steps, steps, func(f saga.Facts) {
			if !saga.May(o, f) {
				return
			}
			without := f
			without.Damage, without.Accepted = [2]bool{}, false
			if got, want := saga.Next(o, f), saga.Next(o, without); !slices.Equal(got, want) || saga.Over(o, f) != saga.Over(o, without) {
				t.Fatalf("%d steps, %+v: %v is needed; without damage %v", steps, f, got, want)
			}
		})
	}
}

// R2: the order and the facts that were handed in are as they were, and what
// lies behind the length of a list is neither read nor written.
func TestLeavesWhatIsHandedIn(t *testing.T) {
	for steps := range api.MaxSteps + 1 {
		everyFacts(steps, steps, func(f saga.Facts) {
			o, was := made(steps), f
			want := ask(o, f)
			o.Steps = append(slices.Clip(o.Steps), api.Step{Service: -1, N: -1})[:steps]
			f.Done = append(slices.Clone(f.Done), true, false)[:steps]
			f.Undone = append(slices.Clone(f.Undone), true, false)[:steps]
			hold(t, o, f, want)
			if !slices.Equal(f.Done[:steps+2], append(slices.Clone(was.Done), true, false)) ||
				!slices.Equal(f.Undone[:steps+2], append(slices.Clone(was.Undone), true, false)) ||
				!slices.Equal(o.Steps[:steps+1], append(slices.Clip(made(steps).Steps), api.Step{Service: -1, N: -1})) {
				t.Fatalf("%+v was made of %+v, of %v", f, was, o.Steps[:steps+1])
			}
		})
	}
}

// R2: what Next tells is the caller's own.
func TestOwnMemory(t *testing.T) {
	o := made(1)
	for _, f := range []saga.Facts{
		{Done: are("-"), Undone: are("-")},
		{Done: are("x"), Undone: are("-")},
		{Done: are("x"), Undone: are("-"), Asked: true, Yes: true},
		{Done: are("x"), Undone: are("-"), Turned: true},
	} {
		want := texts(saga.Next(o, f))
		first, second := saga.Next(o, f), saga.Next(o, f)
		for i := range first {
			first[i] = api.Msg{Kind: -1}
		}
		_ = append(first, api.Msg{Kind: -1}, api.Msg{Kind: -1})
		if texts(second) != want || texts(saga.Next(o, f)) != want {
			t.Errorf("%+v: %v, then %v; want %s", f, second, saga.Next(o, f), want)
		}
	}
}

// R2: of no steps nil and empty lists are one.
func TestNilAndEmpty(t *testing.T) {
	for _, l := range [][]bool{nil, {}} {
		for _, m := range [][]bool{nil, {}} {
			for _, steps := range [][]api.Step{nil, {}} {
				o := made(0)
				o.Steps = steps
				hold(t, o, saga.Facts{Done: l, Undone: m}, answers{true, api.SForward, false, prepares})
				hold(t, o, saga.Facts{Done: l, Undone: m, Turned: true, Acks: both}, answers{true, api.SAborted, true, ""})
			}
		}
	}
}

// R3: long lists end.
func TestLongLists(t *testing.T) {
	long := slices.Repeat([]bool{true}, 1<<20)
	for steps := range api.MaxSteps + 1 {
		none := make([]bool, steps)
		for i, f := range []saga.Facts{
			{Done: long, Undone: long, Turned: true},
			{Done: long, Undone: none},
			{Done: none, Undone: long, Turned: true, Acks: both},
		} {
			if got := ask(made(steps), f); got != (answers{}) {
				t.Errorf("%d steps, %d: %+v", steps, i, got)
			}
		}
	}
}
