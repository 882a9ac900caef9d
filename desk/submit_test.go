package desk_test

import (
	"fmt"
	"math"
	"slices"
	"strings"
	"testing"

	"wharfinger/api"
	"wharfinger/chief"
	"wharfinger/desk"
)

// wrongOrders are orders of that id that may not be, for all else but it.
func wrongOrders(id int) []api.Order {
	var l []api.Order
	change := func(steps int, f func(o *api.Order)) {
		o := made(id, steps)
		o.Steps = slices.Clone(o.Steps)
		f(&o)
		l = append(l, o)
	}
	for _, n := range []int{-1, 8, 1 << 32, math.MinInt, math.MaxInt} {
		change(0, func(o *api.Order) { o.Item = n })
		change(2, func(o *api.Order) { o.Client = n })
	}
	for _, n := range []int{0, -1, most + 1, math.MinInt, math.MaxInt} {
		change(0, func(o *api.Order) { o.Qty = n })
		change(1, func(o *api.Order) { o.Price = n })
		change(3, func(o *api.Order) { o.Steps[2].N = n })
	}
	for _, service := range []int{-1, 0, 3, 7, 4 + 1<<32, math.MinInt, math.MaxInt} {
		change(2, func(o *api.Order) { o.Steps[1].Service = service })
	}
	change(3, func(o *api.Order) { o.Steps[2].Service = o.Steps[0].Service })
	change(3, func(o *api.Order) { o.Steps = append(o.Steps, o.Steps[0]) })
	return append(l, api.Order{Id: id})
}

// P24.1: what may not be is refused; its id is rejected, if it is one, be it the
// first or the last one.
func TestWrongOrder(t *testing.T) {
	for _, id := range []int{1, 2, 7, 500, 998, 999} {
		for i, o := range wrongOrders(id) {
			d, what := desk.New(1, 50, 3), fmt.Sprint(id, ", ", i)
			for range 2 {
				holdSubmit(t, what, d, o, api.ErrArg)
				holdOne(t, what, d, id, api.SRejected, "rejected")
				holdAll(t, what, d, fmt.Sprint(id, "=8"), 0)
			}
		}
	}
}

// P24.1: an id that is none is not rejected, nor another one for it.
func TestNoId(t *testing.T) {
	d := desk.New(1, 50, 3)
	for _, id := range noIds {
		for _, o := range append(wrongOrders(id), made(id, 0), made(id, 3)) {
			holdSubmit(t, "no id", d, o, api.ErrArg)
			holdOne(t, "no id", d, id, api.SNone, "")
		}
		holdAll(t, "no id", d, "", 0)
	}
	holdSubmit(t, "no order", d, api.Order{}, api.ErrArg)
	holdAll(t, "no order", d, "", 0)
}

// P24.1: the answer is the chief's, for whatever is handed in.
func TestAnswer(t *testing.T) {
	d, n := desk.New(3, 12, 3), chief.New(3, 12, 3)
	both := func(o api.Order) {
		t.Helper()
		got, e := d.Submit(o)
		want, no := n.Begin(o)
		if !slices.Equal(got, want) || e != no {
			t.Errorf("Submit(%v): %+v, %d; want %+v, %d", o, got, e, want, no)
		}
	}
	for range 2 {
		for id := range 6 {
			both(made(id, id%4))
			both(wrong(id, 1))
		}
		d.Chief().Crash(0, 0)
		n.Crash(0, 0)
		for id := range 3 {
			both(made(id, 0))
			both(wrong(id, 0))
		}
		d.Chief().Start()
		n.Start()
	}
}

// P24.1: as many orders under way as there may be, and one more: it is rejected,
// till there is a place for it and it begins.
func TestFull(t *testing.T) {
	for orders, want := range map[int]int{1: 1, 2: 2, 63: 63, 64: 64, 65: 64, 0: 1, -1: 1, 1 << 32: 64, 5 - 1<<32: 1, math.MinInt: 1, math.MaxInt: 64} {
		d := desk.New(orders, 4096, 3)
		for id := 1; id <= want; id++ {
			holdSubmit(t, orders, d, made(id, 1), api.OK)
		}
		for range 2 {
			holdSubmit(t, orders, d, made(want+1, 1), api.ErrFull)
			holdOne(t, orders, d, want+1, api.SRejected, "rejected")
			holdSubmit(t, orders, d, made(999, 3), api.ErrFull)
			holdOne(t, orders, d, 999, api.SRejected, "rejected")
		}
		if d.Open() != want {
			t.Errorf("%d: %d are open", orders, d.Open())
		}
		acts(d, made(want, 1), "cancel undone0 ackS damageP")
		holdOne(t, orders, d, want, api.SDamaged, "damaged purse")
		if d.Open() != want-1 {
			t.Errorf("%d: behind an end %d are open", orders, d.Open())
		}
		holdSubmit(t, orders, d, made(want+1, 1), api.OK)
		holdOne(t, orders, d, want+1, api.SForward, "forward 0/1")
		holdOne(t, orders, d, 999, api.SRejected, "rejected")
		holdSubmit(t, orders, d, made(999, 3), api.ErrFull)
	}
}

// P24.1: a journal with room for just all that an order needs, and for one line
// less: it is rejected then, and a smaller one of its id begins.
func TestRoom(t *testing.T) {
	for steps := range api.MaxSteps + 1 {
		for room := 1; room <= steps; room++ {
			d, what := desk.New(2, room, 3), fmt.Sprint(steps, " steps, room ", room)
			holdSubmit(t, what, d, made(7, steps), api.ErrFull)
			holdOne(t, what, d, 7, api.SRejected, "rejected")
			if _, e := d.Submit(made(7, room-1)); e != api.OK {
				t.Errorf("%s: a smaller one is %d", what, e)
			}
			holdOne(t, what, d, 7, api.SForward, fmt.Sprintf("forward 0/%d", room-1))
			holdSubmit(t, what, d, made(8, 0), api.ErrFull)
			holdAll(t, what, d, "7=1 8=8", 1)
		}
		d := desk.New(2, steps+1, 3)
		if _, e := d.Submit(made(7, steps)); e != api.OK {
			t.Errorf("%d steps: %d", steps, e)
		}
		holdAll(t, steps, d, "7=1", 1)
	}
}

// P24.1: the second number is the room of the journal: an order without steps
// that is cancelled leaves five lines, so that so many begin; all others are
// rejected.
func TestRoomOfAll(t *testing.T) {
	for room, want := range map[int]int{
		1: 1, 5: 1, 6: 2, 50: 10, 51: 11, 0: 1, -1: 1, 50 - 1<<32: 1, math.MinInt: 1, 4095: 819, 4096: 820, 4097: 820, 1 << 32: 820, math.MaxInt: 820,
	} {
		d := desk.New(64, room, 3)
		for id := 1; id <= api.MaxId; id++ {
			no := api.OK
			if id > want {
				no = api.ErrFull
			}
			if _, e := d.Submit(made(id, 0)); e != no {
				t.Fatalf("room %d: Submit of %d is %d; want %d", room, id, e, no)
			}
			if (d.Status(id) == api.SRejected) != (id > want) {
				t.Fatalf("room %d: the status of %d is %d", room, id, d.Status(id))
			}
			acts(d, made(id, 0), "cancel ackS ackP")
		}
	}
}

// P24.1: the third number is the tries of the bells.
func TestTries(t *testing.T) {
	for tries, want := range map[int]int{1: 1, 2: 2, 20: 20, 21: 20, 0: 1, -1: 1, math.MinInt: 1, math.MaxInt: 20} {
		d, o := desk.New(1, 50, tries), made(7, 1)
		d.Submit(o)
		for range want {
			act(d, o, "ring")
			holdOne(t, tries, d, 7, api.SForward, "forward 0/1")
		}
		act(d, o, "ring")
		holdOne(t, tries, d, 7, api.SUndoing, "undoing 0/1")
	}
}

// P24.1: an order that there is, whatever became of it: it is as it was, and its
// id is not rejected, which is to be seen while the chief is down.
func TestTwice(t *testing.T) {
	for _, s := range stories {
		for i, x := range s.tales {
			d, o, what := desk.New(2, 50, 3), made(7, s.steps), fmt.Sprint(s.name, ", ", i)
			for _, before := range s.tales[:i+1] {
				act(d, o, before.word)
			}
			for steps := range api.MaxSteps + 1 {
				holdSubmit(t, what, d, made(7, steps), api.ErrTwice)
			}
			holdOne(t, what, d, 7, x.status, x.tell)
			holdAll(t, what, d, fmt.Sprint("7=", x.status), x.open)
			act(d, o, "crash9")
			holdOne(t, what, d, 7, api.SNone, "")
			holdAll(t, what, d, "", 0)
		}
	}
}

// P24.1: an id that is rejected, and begins behind that, and is submitted once
// more, is not rejected any more, be the chief up or down.
func TestRejectedBegins(t *testing.T) {
	for _, id := range []int{1, 7, 999} {
		d, o := desk.New(2, 50, 3), made(id, 2)
		for range 3 {
			holdSubmit(t, "may not be", d, wrong(id, 2), api.ErrArg)
			holdOne(t, "may not be", d, id, api.SRejected, "rejected")
		}
		if _, e := d.Submit(o); e != api.OK {
			t.Errorf("Submit of %d: %d", id, e)
		}
		for range 2 {
			holdOne(t, "begun", d, id, api.SForward, "forward 0/2")
			holdAll(t, "begun", d, fmt.Sprint(id, "=1"), 1)
			holdSubmit(t, "once more", d, o, api.ErrTwice)
			act(d, o, "crash0")
			holdOne(t, "down", d, id, api.SNone, "")
			holdAll(t, "down", d, "", 0)
			holdSubmit(t, "down", d, o, api.ErrDown)
			holdSubmit(t, "down", d, wrong(id, 1), api.ErrDown)
			holdOne(t, "down", d, id, api.SNone, "")
			act(d, o, "start")
		}
	}
}

// P24.1: one of an id that began, and may not be: that id is rejected. That is
// to be seen only where the chief does not know it; no other one of it begins.
func TestBegunIsRejected(t *testing.T) {
	for _, s := range stories {
		d, o := desk.New(2, 50, 3), made(7, s.steps)
		for i, x := range s.tales {
			act(d, o, x.word)
			if i == 0 {
				holdSubmit(t, s.name, d, wrong(7, 1), api.ErrArg)
			}
			holdOne(t, s.name, d, 7, x.status, x.tell)
			holdAll(t, s.name, d, fmt.Sprint(7, "=", x.status), x.open)
		}
		last := s.tales[len(s.tales)-1]
		holdSubmit(t, s.name, d, o, api.ErrTwice)
		act(d, o, "crash9")
		holdOne(t, s.name, d, 7, api.SRejected, "rejected")
		holdAll(t, s.name, d, "7=8", 0)
		act(d, o, "start")
		holdOne(t, s.name, d, 7, last.status, last.tell)
	}
}

// P24.1: of a chief that is down: nothing is rejected, and what was stays so.
func TestDown(t *testing.T) {
	d := desk.New(1, 50, 3)
	d.Submit(made(7, 1))
	d.Submit(made(3, 1))
	d.Submit(wrong(9, 1))
	d.Chief().Crash(0, 0)
	for _, id := range append([]int{1, 3, 7, 9, 10, 999}, noIds...) {
		for _, o := range append(wrongOrders(id), made(id, 0), made(id, 3)) {
			holdSubmit(t, "down", d, o, api.ErrDown)
		}
		holdAll(t, "down", d, "3=8 9=8", 0)
	}
	holdOne(t, "down", d, 7, api.SNone, "")
	holdOne(t, "down", d, 3, api.SRejected, "rejected")
	d.Chief().Start()
	holdAll(t, "up", d, "3=8 7=1 9=8", 1)
}

// P24.1: of several errors the chief's first one is told, and goes by it: whose
// order may not be is rejected, be the desk full, or the order there; one that
// is there is not rejected, be the desk full.
func TestFirstError(t *testing.T) {
	d := desk.New(1, 2, 3)
	d.Submit(made(7, 0))
	holdSubmit(t, "full", d, wrong(8, 0), api.ErrArg)
	holdSubmit(t, "full, and there", d, made(7, 3), api.ErrTwice)
	holdSubmit(t, "full", d, made(9, 3), api.ErrFull)
	holdAll(t, "up", d, "7=2 8=8 9=8", 1)
	d.Chief().Crash(0, 0)
	holdAll(t, "down", d, "8=8 9=8", 0)
	d.Chief().Start()
	holdSubmit(t, "full, and there", d, wrong(7, 0), api.ErrArg)
	d.Chief().Crash(0, 0)
	holdAll(t, "down", d, "7=8 8=8 9=8", 0)
}

// P24.1: rejected ids stay so, whatever comes of others, till one of them
// begins.
func TestRejectedStays(t *testing.T) {
	for _, s := range stories {
		d, o := desk.New(2, 50, 2), made(7, s.steps)
		d.Submit(wrong(6, 0))
		d.Submit(wrong(8, 3))
		for i, x := range s.tales {
			for _, word := range []string{x.word, "crash0", "start"} {
				act(d, o, word)
				for _, id := range []int{6, 8} {
					holdOne(t, fmt.Sprint(s.name, ", ", i), d, id, api.SRejected, "rejected")
					// Nor does what is told of them let them in.
					acts(d, made(id, 2), "done0 undone0 yesS yesP noS ackS damageP shipped cancel accept ring")
				}
			}
		}
		if got := text(d); !strings.HasPrefix(got, "6=8 7=") || !strings.HasSuffix(got, " 8=8") {
			t.Errorf("%s: %s", s.name, got)
		}
	}
}
