package flow_test

import (
	"iter"
	"math"
	"slices"
	"testing"

	"wharfinger/api"
	"wharfinger/flow"
)

var (
	commits = api.Act{Kind: api.MCommits}
	aborts  = api.Act{Kind: api.MAborts}
	shipped = api.Act{Kind: api.MShipped}
)

func done(step int) api.Act   { return api.Act{Kind: api.MDone, Step: step} }
func undone(step int) api.Act { return api.Act{Kind: api.MUndone, Step: step} }

func row(acts ...api.Act) []api.Act { return acts }

// made is an order of so many steps, whose services do not rise.
func made(steps int) api.Order {
	all := []api.Step{{Service: api.Fraud, N: 3}, {Service: api.Coupon, N: 1}, {Service: api.Credit, N: api.MaxAmount}}
	return api.Order{Id: 7, Item: 2, Qty: 5, Client: 3, Price: 100, Steps: all[:steps]}
}

// bad are orders that may not be, each for one cause.
func bad() []api.Order {
	var all []api.Order
	add := func(change func(o *api.Order)) {
		o := made(2)
		change(&o)
		all = append(all, o)
	}
	add(func(o *api.Order) { o.Id = 0 })
	add(func(o *api.Order) { o.Id = api.MaxId + 1 })
	add(func(o *api.Order) { o.Item = -1 })
	add(func(o *api.Order) { o.Item = api.MaxItems })
	add(func(o *api.Order) { o.Client = -1 })
	add(func(o *api.Order) { o.Client = api.MaxItems })
	add(func(o *api.Order) { o.Qty = 0 })
	add(func(o *api.Order) { o.Qty = api.MaxAmount + 1 })
	add(func(o *api.Order) { o.Price = 0 })
	add(func(o *api.Order) { o.Price = math.MinInt })
	add(func(o *api.Order) { o.Steps[0].Service = api.Shipper })
	add(func(o *api.Order) { o.Steps[1].Service = api.Nodes })
	add(func(o *api.Order) { o.Steps[1].N = 0 })
	add(func(o *api.Order) { o.Steps[0].N = api.MaxAmount + 1 })
	add(func(o *api.Order) { o.Steps[1] = o.Steps[0] })
	add(func(o *api.Order) { o.Steps = append(made(3).Steps, api.Step{Service: api.Coupon, N: 1}) })
	add(func(o *api.Order) { o.Steps = make([]api.Step, 1000) })
	return append(all, api.Order{}, api.Order{Steps: made(3).Steps})
}

// ways are Plan and Back, by name.
func ways() map[string]func(api.Order) iter.Seq[api.Act] {
	return map[string]func(api.Order) iter.Seq[api.Act]{"Plan": flow.Plan, "Back": flow.Back}
}

// told is what Plan and Back have to tell of an order of so many steps.
func told(name string, steps int) []api.Act {
	return map[string][][]api.Act{
		"Plan": {
			{{Kind: 6}, {Kind: 9}, {Kind: 15}},
			{{Kind: 1}, {Kind: 6}, {Kind: 9}, {Kind: 15}},
			{{Kind: 1}, {Kind: 1, Step: 1}, {Kind: 6}, {Kind: 9}, {Kind: 15}},
			{{Kind: 1}, {Kind: 1, Step: 1}, {Kind: 1, Step: 2}, {Kind: 6}, {Kind: 9}, {Kind: 15}},
		},
		"Back": {
			{{Kind: 10}},
			{{Kind: 10}, {Kind: 4}},
			{{Kind: 10}, {Kind: 4, Step: 1}, {Kind: 4}},
			{{Kind: 10}, {Kind: 4, Step: 2}, {Kind: 4, Step: 1}, {Kind: 4}},
		},
	}[name][steps]
}

// P6.1: the plan and the way back, told whole, as often as it is gone over.
func TestWays(t *testing.T) {
	for name, way := range ways() {
		for steps := range api.MaxSteps + 1 {
			seq := way(made(steps))
			for range 3 {
				if got, want := slices.Collect(seq), told(name, steps); !slices.Equal(got, want) {
					t.Errorf("%s of %d steps = %v; want %v", name, steps, got, want)
				}
			}
		}
		none := made(0)
		none.Steps = nil
		if got := slices.Collect(way(none)); !slices.Equal(got, told(name, 0)) {
			t.Errorf("%s of nil steps = %v", name, got)
		}
	}
}

// P6.1: it is the steps' places that are told, whatever is in them.
func TestWaysOfOtherOrders(t *testing.T) {
	for name, way := range ways() {
		for _, services := range [][]int{{4, 5, 6}, {6, 5, 4}, {5, 4, 6}, {5, 6, 4}} {
			for _, edge := range []int{1, api.MaxAmount} {
				o := api.Order{Id: 1, Item: 7, Qty: edge, Client: 0, Price: edge}
				for _, service := range services {
					o.Steps = append(o.Steps, api.Step{Service: service, N: edge})
				}
				if got := slices.Collect(way(o)); !slices.Equal(got, told(name, 3)) {
					t.Errorf("%s of %v = %v", name, o, got)
				}
			}
		}
	}
}

// P6.1: of an order that may not be there is nothing.
func TestWaysMayNot(t *testing.T) {
	for name, way := range ways() {
		for _, o := range bad() {
			seq := way(o)
			if seq == nil {
				t.Fatalf("%s(%v) is nil", name, o)
			}
			if got := slices.Collect(seq); len(got) != 0 {
				t.Errorf("%s(%v) = %v; want nothing", name, o, got)
			}
		}
	}
}

// P6.1: both end when the loop does, wherever that is, and are whole behind it.
func TestWaysEnd(t *testing.T) {
	for name, way := range ways() {
		for steps := range api.MaxSteps + 1 {
			want := told(name, steps)
			seq := way(made(steps))
			for last := range want {
				var got []api.Act
				for a := range seq {
					got = append(got, a)
					if len(got) == last+1 {
						break
					}
				}
				if !slices.Equal(got, want[:last+1]) {
					t.Errorf("%s of %d steps, ended at %d: %v", name, steps, last, got)
				}
				calls := 0
				seq(func(api.Act) bool {
					calls++
					return calls <= last
				})
				if calls != last+1 {
					t.Errorf("%s of %d steps, ended at %d, was gone over %d times", name, steps, last, calls)
				}
			}
			if got := slices.Collect(seq); !slices.Equal(got, want) {
				t.Errorf("%s of %d steps, behind loops that ended, = %v", name, steps, got)
			}
		}
	}
}

// P6.1: loops of one way inside another do not disturb each other.
func TestWaysNested(t *testing.T) {
	for name, way := range ways() {
		seq, want := way(made(3)), told(name, 3)
		var got []api.Act
		for a := range seq {
			if inner := slices.Collect(seq); !slices.Equal(inner, want) {
				t.Errorf("%s inside a loop of it = %v", name, inner)
			}
			got = append(got, a)
		}
		if !slices.Equal(got, want) {
			t.Errorf("%s around loops of it = %v", name, got)
		}
	}
}

// R2: what is handed in is neither changed nor kept: what becomes of it behind
// the call is not seen; nor is what lies behind its length.
func TestWaysMemory(t *testing.T) {
	for name, way := range ways() {
		o := made(3)
		all := o.Steps
		o.Steps = all[:2]
		all[2] = api.Step{Service: -1, N: -1}
		seq := way(o)
		if want := []api.Step{{Service: api.Fraud, N: 3}, {Service: api.Coupon, N: 1}, {Service: -1, N: -1}}; !slices.Equal(all, want) {
			t.Errorf("%s left the steps as %v", name, all)
		}
		all[0], all[1] = api.Step{}, api.Step{}
		if got := slices.Collect(seq); !slices.Equal(got, told(name, 2)) {
			t.Errorf("%s, with the steps changed behind it, = %v", name, got)
		}
		wrong := way(o)
		copy(all, made(3).Steps)
		if got := slices.Collect(wrong); len(got) != 0 {
			t.Errorf("%s, with the steps mended behind it, = %v", name, got)
		}
	}
}

// R3: nothing panics where no loop is there.
func TestWaysWithoutLoop(t *testing.T) {
	for _, way := range ways() {
		way(made(3))(nil)
		way(made(0))(nil)
		way(api.Order{})(nil)
	}
}

func holdLegal(t *testing.T, o api.Order, l []api.Act, want int) {
	t.Helper()
	if got := flow.Legal(o, l); got != want {
		t.Errorf("Legal of %d steps, %v = %d; want %d", len(o.Steps), l, got, want)
	}
}

// P6.2: rows that may happen whole, each with all its beginnings (P6.3).
func TestLegalWhole(t *testing.T) {
	for _, c := range []struct {
		steps int
		l     []api.Act
	}{
		{0, nil}, {0, []api.Act{}}, {3, nil}, {3, []api.Act{}},
		{0, row(commits, shipped)}, {0, row(aborts)},
		{1, row(done(0), commits, shipped)},
		{1, row(done(0), aborts, undone(0))},
		{1, row(aborts, done(0), undone(0))},
		{2, row(done(0), done(1), commits, shipped)},
		{2, row(done(0), aborts, done(1), undone(1), undone(0))},
		{2, row(done(0), aborts, undone(0))},
		{3, row(done(0), done(1), done(2), commits, shipped)},
		{3, row(done(0), done(1), done(2), aborts, undone(2), undone(1), undone(0))},
		{3, row(done(0), done(1), aborts, done(2), undone(2), undone(1), undone(0))},
		{3, row(done(0), done(1), aborts, undone(1), undone(0))},
		{3, row(done(0), aborts, done(1), undone(1), undone(0))},
		{3, row(aborts, done(0), done(1), done(2), undone(2), undone(1), undone(0))},
	} {
		for n := range len(c.l) + 1 {
			holdLegal(t, made(c.steps), c.l[:n], n)
		}
	}
}

// P6.2: what may not happen, behind what may; so much as may is told.
func TestLegalNot(t *testing.T) {
	for _, c := range []struct {
		what  string
		steps int
		l     []api.Act // all but the last one may happen
	}{
		{"a step of none", 0, row(done(0))},
		{"a step behind the last", 1, row(done(0), done(1))},
		{"a step behind the last of all that may be", 3, row(done(0), done(1), done(2), done(3))},
		{"a step below nothing", 2, row(done(-1))},
		{"a step below nothing, later", 2, row(done(0), done(-1))},
		{"a step far below nothing", 3, row(done(0), done(math.MinInt))},
		{"a step far behind the last", 3, row(done(0), done(math.MaxInt))},
		{"a step twice", 2, row(done(0), done(0))},
		{"a step twice, late", 2, row(done(0), aborts, done(0))},
		{"the last step twice", 2, row(done(0), done(1), done(1))},
		{"a step ahead of the one before it", 2, row(done(1))},
		{"a step ahead of the one before it, later", 3, row(done(0), done(2))},
		{"a late step ahead of the one before it", 3, row(aborts, done(1))},
		{"a step behind MCommits", 1, row(done(0), commits, done(0))},
		{"a step that is none, behind MCommits", 1, row(done(0), commits, done(1))},
		{"a step behind an MUndone", 2, row(done(0), aborts, undone(0), done(1))},
		{"a step again, behind its MUndone", 1, row(done(0), aborts, undone(0), done(0))},
		{"MCommits with all steps lacking", 1, row(commits)},
		{"MCommits with the last step lacking", 3, row(done(0), done(1), commits)},
		{"MCommits twice", 0, row(commits, commits)},
		{"MCommits twice, of steps", 1, row(done(0), commits, commits)},
		{"MCommits behind MShipped", 0, row(commits, shipped, commits)},
		{"MCommits behind MAborts", 0, row(aborts, commits)},
		{"MCommits behind MAborts, of steps", 1, row(done(0), aborts, commits)},
		{"MCommits behind an MUndone", 2, row(done(0), done(1), aborts, undone(1), commits)},
		{"MAborts twice", 0, row(aborts, aborts)},
		{"MAborts behind an MUndone", 1, row(done(0), aborts, undone(0), aborts)},
		{"MAborts behind MCommits", 0, row(commits, aborts)},
		{"MAborts behind MShipped", 1, row(done(0), commits, shipped, aborts)},
		{"MUndone ahead of all", 1, row(undone(0))},
		{"MUndone ahead of MAborts", 1, row(done(0), undone(0))},
		{"MUndone behind MCommits", 1, row(done(0), commits, undone(0))},
		{"MUndone of a step that is not done", 2, row(done(0), aborts, undone(1))},
		{"MUndone with no step done", 2, row(aborts, undone(0))},
		{"MUndone below nothing, with no step done", 2, row(aborts, undone(-1))},
		{"MUndone below nothing, of no steps", 0, row(aborts, undone(-1))},
		{"MUndone below nothing, with all undone", 1, row(done(0), aborts, undone(0), undone(-1))},
		{"MUndone behind the last", 3, row(done(0), done(1), done(2), aborts, undone(3))},
		{"MUndone far off", 1, row(done(0), aborts, undone(math.MinInt))},
		{"MUndone twice", 2, row(done(0), done(1), aborts, undone(1), undone(1))},
		{"MUndone of the first step twice", 1, row(done(0), aborts, undone(0), undone(0))},
		{"MUndone ahead of a later one", 2, row(done(0), done(1), aborts, undone(0))},
		{"MUndone ahead of a late one", 2, row(done(0), aborts, done(1), undone(0))},
		{"MUndone ahead of the one between", 3, row(done(0), done(1), done(2), aborts, undone(2), undone(0))},
		{"MShipped of nothing", 0, row(shipped)},
		{"MShipped ahead of MCommits", 1, row(done(0), shipped)},
		{"MShipped behind MAborts", 0, row(aborts, shipped)},
		{"MShipped twice", 0, row(commits, shipped, shipped)},
		{"MCommits with a step", 1, row(done(0), api.Act{Kind: api.MCommits, Step: 1})},
		{"MCommits with a step below nothing", 0, row(api.Act{Kind: api.MCommits, Step: -1})},
		{"MAborts with a step", 1, row(api.Act{Kind: api.MAborts, Step: 1})},
		{"MAborts with a step below nothing", 0, row(api.Act{Kind: api.MAborts, Step: -1})},
		{"MShipped with a step", 0, row(commits, api.Act{Kind: api.MShipped, Step: 1})},
		{"MShipped with a step below nothing", 1, row(done(0), commits, api.Act{Kind: api.MShipped, Step: -1})},
		{"no kind", 1, row(api.Act{})},
		{"a kind below nothing", 1, row(api.Act{Kind: -api.MDone})},
		{"MDo", 1, row(api.Act{Kind: api.MDo})},
		{"MUndo", 1, row(done(0), aborts, api.Act{Kind: api.MUndo})},
		{"MCommit", 0, row(api.Act{Kind: api.MCommit})},
		{"MAbort", 0, row(api.Act{Kind: api.MAbort})},
		{"MShip", 0, row(commits, api.Act{Kind: api.MShip})},
		{"a kind that there is not", 0, row(commits, api.Act{Kind: 1<<32 + api.MShipped})},
	} {
		t.Run(c.what, func(t *testing.T) {
			want := len(c.l) - 1
			holdLegal(t, made(c.steps), c.l, want)
			for n := range c.l {
				holdLegal(t, made(c.steps), c.l[:n], n)
			}
			// What follows behind it does not count, not even what might happen else.
			for _, next := range row(done(0), done(1), undone(0), commits, aborts, shipped) {
				holdLegal(t, made(c.steps), append(slices.Clone(c.l), next, next), want)
			}
		})
	}
}

// P6.2: of an order that may not be nothing may happen.
func TestLegalMayNot(t *testing.T) {
	for _, o := range bad() {
		for _, l := range [][]api.Act{nil, {}, row(aborts), row(commits), row(commits, shipped), row(done(0)), row(done(0), done(1), commits)} {
			if got := flow.Legal(o, l); got != 0 {
				t.Errorf("Legal(%v, %v) = %d; want 0", o, l, got)
			}
		}
	}
}

// mayNext is what the document says of a behind what happened, word by word,
// with each thing that happened looked up in the row.
func mayNext(steps int, happened []api.Act, a api.Act) bool {
	did := func(a api.Act) bool { return slices.Contains(happened, a) }
	anyUndone := slices.ContainsFunc(happened, func(a api.Act) bool { return a.Kind == api.MUndone })
	ofOrder := a.Step >= 0 && a.Step < steps
	switch a.Kind {
	case api.MDone:
		return ofOrder && !did(a) && (a.Step == 0 || did(done(a.Step-1))) && !did(commits) && !anyUndone
	case api.MCommits:
		for i := range steps {
			if !did(done(i)) {
				return false
			}
		}
		return a.Step == 0 && !did(commits) && !did(aborts) && !anyUndone
	case api.MAborts:
		return a.Step == 0 && !did(aborts) && !did(commits)
	case api.MUndone:
		for i := a.Step + 1; ofOrder && i < steps; i++ {
			if did(done(i)) && !did(undone(i)) {
				return false
			}
		}
		return ofOrder && did(aborts) && did(done(a.Step)) && !did(a)
	case api.MShipped:
		return a.Step == 0 && did(commits) && !did(shipped)
	}
	return false
}

// acts are all kinds there are, and some that there are not, of steps at,
// below and behind those that an order has.
func acts() []api.Act {
	kinds := []int{math.MinInt, math.MaxInt, 1<<32 + api.MAborts, 1<<32 + api.MDone, 99}
	for kind := -20; kind <= 20; kind++ {
		kinds = append(kinds, kind)
	}
	var all []api.Act
	for _, kind := range kinds {
		for _, step := range []int{0, 1, 2, 3, 4, -1, -2, -3, 1 << 32, 1<<32 + 1, math.MinInt, math.MaxInt} {
			all = append(all, api.Act{Kind: kind, Step: step})
		}
	}
	return all
}

// legalRows are all rows that may happen to an order of so many steps.
func legalRows(steps int) [][]api.Act {
	all := [][]api.Act{nil}
	for i := 0; i < len(all); i++ {
		for _, a := range acts() {
			if mayNext(steps, all[i], a) {
				all = append(all, append(slices.Clone(all[i]), a))
			}
		}
	}
	return all
}

// P6.2, P6.3: each row that may happen at all is told whole, and of it with
// one behind it that may not so much as it was.
func TestLegalAll(t *testing.T) {
	// By hand, for D a step, U it undone, and the others' first letters: none,
	// C, CS, A; none, D, DC, DCS, DA, DAU, A, AD, ADU.
	counts := map[int]int{0: 4, 1: 9}
	for steps := range api.MaxSteps + 1 {
		o := made(steps)
		rows := legalRows(steps)
		if want, known := counts[steps]; known && len(rows) != want {
			t.Fatalf("%d rows of %d steps; want %d", len(rows), steps, want)
		}
		for _, l := range rows {
			for n := range len(l) + 1 {
				holdLegal(t, o, l[:n], n)
			}
			for _, a := range acts() {
				want := len(l)
				if mayNext(steps, l, a) {
					want++
				}
				holdLegal(t, o, append(slices.Clone(l), a), want)
			}
		}
	}
}

// wanted is how many of l may happen, by mayNext.
func wanted(steps int, l []api.Act) int {
	for n, a := range l {
		if !mayNext(steps, l[:n], a) {
			return n
		}
	}
	return len(l)
}

// P6.2, P6.3: every row of up to five of what happens: so many may happen as
// the document says, and a beginning tells no more and no less of itself.
func TestLegalRows(t *testing.T) {
	some := row(done(0), done(1), done(2), undone(0), undone(1), undone(2), commits, aborts, shipped)
	rows := [][]api.Act{nil}
	for range 5 {
		var next [][]api.Act
		for _, l := range rows {
			for _, a := range some {
				next = append(next, append(slices.Clone(l), a))
			}
		}
		rows = next
		for _, l := range rows {
			for steps := range api.MaxSteps + 1 {
				got := flow.Legal(made(steps), l)
				if got != wanted(steps, l) {
					t.Fatalf("Legal of %d steps, %v = %d; want %d", steps, l, got, wanted(steps, l))
				}
				for n := range l {
					holdLegal(t, made(steps), l[:n], min(n, got))
				}
			}
		}
	}
}

// P6.1, P6.2 (T2): where what is planned happens it is legal, and so is the way
// back from each place of the plan ahead of MCommit.
func TestWaysAreLegal(t *testing.T) {
	happens := map[int]int{api.MDo: api.MDone, api.MCommit: api.MCommits, api.MShip: api.MShipped, api.MAbort: api.MAborts, api.MUndo: api.MUndone}
	for steps := range api.MaxSteps + 1 {
		o := made(steps)
		var planned []api.Act
		for a := range flow.Plan(o) {
			if kind := happens[a.Kind]; kind != 0 {
				planned = append(planned, api.Act{Kind: kind, Step: a.Step})
			}
		}
		holdLegal(t, o, planned, steps+2)
		for n := range steps + 1 {
			l := slices.Clone(planned[:n])
			for a := range flow.Back(o) {
				if a.Kind == api.MAbort || a.Step < n {
					l = append(l, api.Act{Kind: happens[a.Kind], Step: a.Step})
				}
			}
			holdLegal(t, o, l, 2*n+1)
		}
	}
}

// R2: what is handed in is not changed, and not read behind its length.
func TestLegalMemory(t *testing.T) {
	l := row(done(0), aborts, undone(0), shipped, commits)
	o := made(3)
	if got := flow.Legal(o, l[:2]); got != 2 {
		t.Errorf("Legal of a beginning = %d", got)
	}
	if got := flow.Legal(o, l); got != 3 {
		t.Errorf("Legal = %d", got)
	}
	if !slices.Equal(l, row(done(0), aborts, undone(0), shipped, commits)) || !slices.Equal(o.Steps, made(3).Steps) {
		t.Errorf("Legal left %v, %v", l, o)
	}
	o.Steps = o.Steps[:1]
	holdLegal(t, o, row(done(0), done(1)), 1)
	holdLegal(t, o, row(done(0), commits, shipped), 3)
}

// R3: long rows end, wherever what may not happen stands.
func TestLegalLong(t *testing.T) {
	long := slices.Repeat(row(aborts), 1<<20)
	holdLong := func(o api.Order, l []api.Act, want int) {
		if got := flow.Legal(o, l); got != want {
			t.Errorf("Legal of a long row = %d; want %d", got, want)
		}
	}
	holdLong(made(0), long, 1)
	holdLong(made(2), append(row(done(0), done(1), aborts, undone(1), undone(0)), long...), 5)
	holdLong(api.Order{}, long, 0)
}
