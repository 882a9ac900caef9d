package desk_test

import (
	"fmt"
	"strings"
	"testing"

	"wharfinger/api"
	"wharfinger/desk"
)

// upTo is a desk behind so much of a story, with 5 and 9 rejected.
func upTo(s story, tales int) *desk.Desk {
	d := desk.New(2, 50, 3)
	d.Submit(wrong(9, 1))
	for _, x := range s.tales[:tales] {
		act(d, made(7, s.steps), x.word)
	}
	d.Submit(wrong(5, 0))
	return d
}

// holdDown holds of a desk that upTo made that its chief is down: the rejected
// alone are known.
func holdDown(t *testing.T, what any, d *desk.Desk) {
	t.Helper()
	for range 2 {
		holdOne(t, what, d, 5, api.SRejected, "rejected")
		holdOne(t, what, d, 7, api.SNone, "")
		holdOne(t, what, d, 8, api.SNone, "")
		holdOne(t, what, d, 9, api.SRejected, "rejected")
		holdAll(t, what, d, "5=8 9=8", 0)
		// Whatever is handed in, or told, while it is down is as if it were not.
		for _, id := range []int{5, 7, 8, 9} {
			holdSubmit(t, what, d, made(id, 0), api.ErrDown)
			holdSubmit(t, what, d, wrong(id, 0), api.ErrDown)
			acts(d, made(id, 2), "done0 yesS ackS damageP shipped cancel accept ring")
		}
	}
}

// behind is what is told behind a crash, and a start, and how many are open:
// where all lines stay who was asked is turned.
func (x tale) behind(crash string, steps int) (string, int) {
	switch {
	case crash == "crash0":
		return x.sure, x.sureOpen
	case x.tell == "preparing":
		return fmt.Sprintf("undoing 0/%d", steps), x.open
	}
	return x.tell, x.open
}

// statusOf is the status of which tell is told.
func statusOf(tell string) int {
	word, _, _ := strings.Cut(tell, " ")
	return map[string]int{
		"forward": api.SForward, "preparing": api.SPreparing, "committed": api.SCommitted, "undoing": api.SUndoing,
		"shipped": api.SShipped, "aborted": api.SAborted, "damaged": api.SDamaged,
	}[word]
}

// P24.1, P24.2: the chief goes down behind each step, and comes up again, with
// all of its lines or with those alone that were sure.
func TestCrashBehindEach(t *testing.T) {
	for _, s := range stories {
		for i, x := range s.tales {
			for _, crash := range []string{"crash0", "crash9"} {
				d, o := upTo(s, i+1), made(7, s.steps)
				what := fmt.Sprint(s.name, ", ", i, ", ", crash)
				want, open := x.behind(crash, s.steps)
				for range 3 {
					act(d, o, crash)
					holdDown(t, what, d)
					act(d, o, "start")
					holdOne(t, what, d, 7, statusOf(want), want)
					holdOne(t, what, d, 5, api.SRejected, "rejected")
					holdOne(t, what, d, 9, api.SRejected, "rejected")
					holdAll(t, what, d, fmt.Sprint("5=8 7=", statusOf(want), " 9=8"), open)
				}
			}
		}
	}
}

// P24.1: behind a crash there is room for as many as ahead of it, and a rejected
// one may begin.
func TestBeginsBehindCrash(t *testing.T) {
	for _, s := range stories {
		for i, x := range s.tales {
			d, o, what := upTo(s, i+1), made(7, s.steps), fmt.Sprint(s.name, ", ", i)
			acts(d, o, "crash0 start")
			holdSubmit(t, what, d, o, api.ErrTwice)
			holdSubmit(t, what, d, made(9, 1), api.OK)
			holdOne(t, what, d, 9, api.SForward, "forward 0/1")
			no, rejected := api.OK, "5=1"
			if x.sureOpen == 1 {
				no, rejected = api.ErrFull, "5=8"
			}
			holdSubmit(t, what, d, made(5, 1), no)
			holdAll(t, what, d, fmt.Sprint(rejected, " 7=", statusOf(x.sure), " 9=1"), 2)
			act(d, o, "crash0")
			holdOne(t, what, d, 9, api.SNone, "")
			if no == api.OK {
				holdAll(t, what, d, "", 0)
			} else {
				holdAll(t, what, d, "5=8", 0)
			}
		}
	}
}

// P24.3 (T3): what is damaged stays so till it is accepted, whatever comes,
// whatever crashes; what was accepted is not damaged any more.
func TestDamagedStays(t *testing.T) {
	words := []string{
		"submit", "wrong", "done0", "done1", "fail0", "undone1", "undone0", "yesS", "yesP", "noS", "ackS", "ackP", "shipped",
		"cancel", "ring", "crash0 start", "crash1 start", "crash9 start",
	}
	for _, way := range []string{"done0 done1 yesS yesP", "cancel", "done0 fail1 undone1"} {
		for _, damage := range []string{"damageS", "damageP", "damageP damageS"} {
			for _, first := range words {
				for _, second := range append(words, "damageS") {
					holdDamaged(t, way+" "+damage, first, second)
				}
			}
		}
	}
}

// damagedBy is what is told of an order behind words that damaged it.
func damagedBy(words string) string {
	tell := "damaged"
	if strings.Contains(words, "damageS") {
		tell += " stock"
	}
	if strings.Contains(words, "damageP") {
		tell += " purse"
	}
	return tell
}

// holdDamaged holds that an order that words damaged stays so, whatever else is
// done, till it is accepted; it is not damaged any more then.
func holdDamaged(t *testing.T, words string, others ...string) {
	t.Helper()
	d, o := desk.New(2, 50, 3), made(7, 2)
	acts(d, o, "submit "+words)
	for range 2 {
		for _, other := range others {
			acts(d, o, other)
			words += " " + other
			holdOne(t, words, d, 7, api.SDamaged, damagedBy(words))
			if text(d) != "7=7" {
				t.Errorf("%s: All goes over %s", words, text(d))
			}
		}
	}
	acts(d, o, "accept")
	for range 2 {
		for _, other := range append(others, "damageS", "damageP", "crash0 start") {
			acts(d, o, other)
			if s := d.Status(7); s == api.SDamaged || s == api.SNone {
				t.Errorf("%s, accept: behind %s it is %d", words, other, s)
			}
		}
	}
}
