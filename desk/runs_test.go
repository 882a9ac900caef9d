package desk_test

import (
	"fmt"
	"maps"
	"slices"
	"strings"
	"testing"

	"wharfinger/api"
	"wharfinger/chief"
	"wharfinger/desk"
	"wharfinger/saga"
)

// plain is a desk that keeps all errors that there were of each id since one of
// it began, beside a chief that is treated like the desk's.
type plain struct {
	chief  *chief.Node
	errors map[int][]api.Errno
}

func newPlain(orders, room, tries int) *plain {
	return &plain{chief.New(orders, room, tries), map[int][]api.Errno{}}
}

func (p *plain) submit(o api.Order) ([]api.Msg, api.Errno) {
	l, e := p.chief.Begin(o)
	p.errors[o.Id] = append(p.errors[o.Id], e)
	if e == api.OK {
		p.errors[o.Id] = nil
	}
	return l, e
}

func (p *plain) status(id int) int {
	if s := p.chief.State(id); s != api.SNone {
		return s
	}
	for _, e := range p.errors[id] {
		if 1 <= id && id <= 999 && e != api.ErrDown && e != api.ErrTwice {
			return api.SRejected
		}
	}
	return api.SNone
}

// count is how many of l are so.
func count(l []bool) int {
	n := 0
	for _, so := range l {
		if so {
			n++
		}
	}
	return n
}

func (p *plain) tell(id int) string {
	o, f, _ := p.chief.Facts(id)
	words := map[int]string{
		api.SForward: fmt.Sprintf("forward %d/%d", count(f.Done), len(o.Steps)), api.SUndoing: fmt.Sprintf("undoing %d/%d", count(f.Undone), len(o.Steps)),
		api.SPreparing: "preparing", api.SCommitted: "committed", api.SShipped: "shipped", api.SAborted: "aborted", api.SRejected: "rejected",
		api.SDamaged: map[[2]bool]string{{true, false}: "damaged stock", {false, true}: "damaged purse", {true, true}: "damaged stock purse"}[f.Damage],
	}
	if p.status(id) == api.SNone {
		return ""
	}
	return fmt.Sprintf("%d: %s", id, words[p.status(id)])
}

func (p *plain) all() string {
	var l []string
	for id := -1; id <= 1001; id++ {
		if p.status(id) != api.SNone {
			l = append(l, fmt.Sprint(id, "=", p.status(id)))
		}
	}
	return strings.Join(l, " ")
}

func (p *plain) open() int {
	open := 0
	for id := range p.chief.Ids() {
		o, f, _ := p.chief.Facts(id)
		if !saga.Over(o, f) {
			open++
		}
	}
	return open
}

// draws is a row of numbers that look like no rule.
type draws int

func (d *draws) next(n int) int {
	*d = (*d*1103515245 + 12345) % (1 << 31)
	return int(*d>>8) % n
}

// wordsOf are the words that may do something to an order of so many steps, as
// often as they should be drawn: few of them turn it.
func wordsOf(steps int) []string {
	l := strings.Fields("yesS yesP yesS yesP yesS yesP ackS ackP shipped ackS ackP shipped")
	for i := range steps {
		l = append(l, fmt.Sprint("done", i), fmt.Sprint("undone", i))
	}
	l = slices.Repeat(l, 8)
	for i := range steps {
		l = append(l, fmt.Sprint("fail", i))
	}
	return append(l, strings.Fields("noS noP cancel cancel damageS damageP accept accept ring ring ring ring")...)
}

// both does some step with a desk and with a plain one, about one of so many
// orders, whose steps hang on their ids, and tells what it was; few are crashes.
func (d *draws) both(t *testing.T, k *desk.Desk, p *plain, ids int) string {
	t.Helper()
	o := made(1+(d.next(ids)*377+1)%api.MaxId, 0)
	o.Steps = made(7, o.Id%4).Steps
	word := "submit"
	switch n := d.next(24); {
	case n == 0:
		word = []string{"crash0", "crash1", "crash9"}[d.next(3)]
	case n < 4:
		word = "start"
	case n < 10:
		switch d.next(6) {
		case 0:
			o.Item = 8
		case 1:
			o.Id = noIds[d.next(len(noIds))]
		}
	default:
		l := wordsOf(len(o.Steps))
		word = l[d.next(len(l))]
	}
	got, e := act(k, o, word)
	want, no := p.act(o, word)
	if !slices.Equal(got, want) || e != no {
		t.Errorf("%s of %v: %+v, %d; want %+v, %d", word, o, got, e, want, no)
	}
	return fmt.Sprint(word, " of ", o.Id)
}

// act does what a word names.
func (p *plain) act(o api.Order, word string) ([]api.Msg, api.Errno) {
	switch word {
	case "submit":
		return p.submit(o)
	case "cancel":
		return p.chief.Cancel(o.Id)
	case "accept":
		return nil, p.chief.Accept(o.Id)
	case "ring":
		return p.chief.Ring(o.Id), api.OK
	case "crash0", "crash1", "crash9":
		p.chief.Crash(int(word[5]-'0'), 0)
		return nil, api.OK
	case "start":
		p.chief.Start()
		return nil, api.OK
	}
	return p.chief.Handle(heard(o, word)), api.OK
}

// P24.1, P24.2: long runs, of few orders and of many, of journals that come to
// be full and of such that do not, held against a plain desk.
func TestLongRuns(t *testing.T) {
	met := map[string]int{}
	for seed, c := range []struct{ orders, room, tries, ids int }{
		{1, 4096, 3, 1}, {1, 4096, 1, 3}, {2, 4096, 20, 4}, {3, 40, 2, 5}, {5, 100, 1, 12}, {64, 300, 3, 40},
		{64, 4096, 2, 100}, {8, 20, 1, 20}, {64, 4096, 5, 999}, {4, 7, 1, 6}, {3, 4096, 4, 30},
	} {
		k, p, d := desk.New(c.orders, c.room, c.tries), newPlain(c.orders, c.room, c.tries), draws(seed)
		for i := range 1500 {
			what := fmt.Sprint("run ", seed, ", step ", i, ", ", d.both(t, k, p, c.ids))
			holdAll(t, what, k, p.all(), p.open())
			for id, status := range k.All() {
				tell := p.tell(id)
				if k.Tell(id) != tell || k.Status(id) != status {
					t.Errorf("%s: of %d it tells %q, %d; want %q, %d", what, id, k.Tell(id), k.Status(id), tell, status)
				}
				_, words, _ := strings.Cut(tell, ": ")
				met[words]++
			}
			if t.Failed() {
				t.FailNow()
			}
		}
	}
	for _, words := range []string{
		"forward 0/1", "forward 0/3", "forward 2/3", "preparing", "committed", "undoing 0/0", "undoing 2/2", "undoing 1/3",
		"shipped", "aborted", "damaged stock", "damaged purse", "damaged stock purse", "rejected",
	} {
		if met[words] == 0 {
			t.Errorf("%s was not met; %v", words, slices.Sorted(maps.Keys(met)))
		}
	}
}

// P24.3 (T3): in long runs no order comes out of damage but by Accept of it,
// whatever comes of it and of others, whatever crashes.
func TestDamageInLongRuns(t *testing.T) {
	seen := 0
	for seed := range 20 {
		k, p, d := desk.New(4, 4096, 3), newPlain(4, 4096, 3), draws(seed+700)
		damaged := map[int]string{}
		for i := range 600 {
			did := d.both(t, k, p, 3+seed)
			for id, words := range damaged {
				switch {
				case k.Chief().Down():
				case did == fmt.Sprint("accept of ", id):
					delete(damaged, id)
				case k.Status(id) != api.SDamaged || !strings.HasPrefix(k.Tell(id), fmt.Sprint(id, ": damaged")):
					t.Fatalf("run %d, step %d: behind %s %d is %q; it was %q", seed, i, did, id, k.Tell(id), words)
				}
			}
			for id, status := range k.All() {
				if status == api.SDamaged {
					damaged[id] = k.Tell(id)
					seen++
				}
			}
		}
	}
	if seen == 0 {
		t.Error("nothing was damaged")
	}
}

// R6: two desks that are treated alike tell alike.
func TestSameAgain(t *testing.T) {
	tell := func() string {
		k, p, d, s := desk.New(10, 500, 2), newPlain(10, 500, 2), draws(77), ""
		for range 500 {
			s += d.both(t, k, p, 30) + ": " + text(k) + "; "
		}
		return s
	}
	if tell() != tell() {
		t.Error("they tell otherwise")
	}
}
