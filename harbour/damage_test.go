package harbour_test

import (
	"fmt"
	"strings"
	"testing"

	"wharfinger/api"
)

// P25.2, P25.3: damage at Purse, message by message, and CAccept behind it.
func TestDamage(t *testing.T) {
	h := upTo(t, 1, 4)
	holdTold(t, "damage", h, 7, []told{
		{force(api.Purse, 7, false), "yes stock>chief 7, yes purse>chief 7", "preparing; ready, forced no; - did -; done0; forced"},
		{deliver(0), "yes purse>chief 7", "preparing; ready, forced no; - did -; done0; forced"},
		{deliver(0), "commit chief>stock 7, commit chief>purse 7, ship chief>shipper 7 (1 2)", "committed; ready, forced no; - did -; done0 commits; forced"},
		{deliver(1), "commit chief>stock 7, ship chief>shipper 7 (1 2), damage purse>chief 7", "committed; ready, forced no; - did -; done0 commits; forced"},
		{double(2), "commit chief>stock 7, ship chief>shipper 7 (1 2), damage purse>chief 7, damage purse>chief 7", "committed; ready, forced no; - did -; done0 commits; forced"},
		{deliver(2), "commit chief>stock 7, ship chief>shipper 7 (1 2), damage purse>chief 7, damaged chief>purse 7, commit chief>stock 7, ship chief>shipper 7 (1 2)", "damaged purse; ready, forced no; - did -; done0 commits; forced"},
		{deliver(2), "commit chief>stock 7, ship chief>shipper 7 (1 2), damaged chief>purse 7, commit chief>stock 7, ship chief>shipper 7 (1 2), damaged chief>purse 7", "damaged purse; ready, forced no; - did -; done0 commits; forced"},
		{deliver(2), "commit chief>stock 7, ship chief>shipper 7 (1 2), commit chief>stock 7, ship chief>shipper 7 (1 2), damaged chief>purse 7", "damaged purse; ready, forced no; - did -; done0 commits; forced"},
		{accept(7), "commit chief>stock 7, ship chief>shipper 7 (1 2), commit chief>stock 7, ship chief>shipper 7 (1 2), damaged chief>purse 7", "committed; ready, forced no; - did -; done0 commits; forced"},
		{deliver(1), "commit chief>stock 7, commit chief>stock 7, ship chief>shipper 7 (1 2), damaged chief>purse 7, shipped shipper>chief 7", "committed; ready, forced no; - did - 2x1; done0 commits shipped; forced"},
	})
	holdRefused(t, "accepted", h, accept(7), api.ErrState, 7)
	deliverAll(t, h)
	holdOrder(t, "accepted", h, 7, "shipped; yes, forced no; - did - 2x1; done0 commits shipped; forced")
	holdBooks(t, "accepted", h, "9 18; 9 18; 500 70; ; 0; 8 9 10; 0 2; ")
}

// forcings are how a keeper may be forced: not at all, for it, against it.
var forcings = []string{"ready", "forced yes", "forced no"}

// ended is the state of a keeper that was forced so, behind a decision; is it
// damage?
func ended(forced string, yes bool) (string, bool) {
	switch {
	case forced == "ready" && yes:
		return "yes", false
	case forced == "ready":
		return "no", false
	}
	return forced, (forced == "forced yes") != yes
}

// P25.2, P25.3: each keeper is forced for it, against it, or not, and it is
// decided for it, or against it: whose damage it is, and CAccept behind it.
func TestDamageOfEach(t *testing.T) {
	for _, stock := range forcings {
		for _, purse := range forcings {
			for _, yes := range []bool{true, false} {
				for _, settle := range []bool{true, false} {
					holdDamage(t, [2]string{stock, purse}, yes, settle)
				}
			}
		}
	}
}

// holdDamage holds what comes of an order of which the keepers were forced so.
func holdDamage(t *testing.T, forced [2]string, yes, settle bool) {
	t.Helper()
	h, what := upTo(t, 1, 4), fmt.Sprint(forced, " ", yes)
	for i, x := range forced {
		if x != "ready" {
			acts(t, h, force(api.Stock+i, 7, x == "forced yes"))
		}
	}
	end, trace := "shipped", "; - did - 2x1; done0 commits shipped"
	if !yes {
		acts(t, h, cancel(7))
		end, trace = "aborted", "; - undid -; done0 aborts undone0"
	}
	if settle {
		h.Settle(100)
	}
	deliverAll(t, h)
	told := ""
	var states []string
	for i, x := range forced {
		state, damage := ended(x, yes)
		states = append(states, state)
		if damage {
			told += " " + names[api.Stock+i]
		}
	}
	rest := "; " + strings.Join(states, ", ") + trace
	if forced != [2]string{"ready", "ready"} {
		rest += "; forced"
	}
	if told == "" {
		holdOrder(t, what, h, 7, end+rest)
		holdRefused(t, what, h, accept(7), api.ErrState, 7)
		return
	}
	holdOrder(t, what, h, 7, "damaged"+told+rest)
	acts(t, h, crash(api.Chief, 99, 0), start(api.Chief))
	holdOrder(t, what, h, 7, "damaged"+told+rest)
	if n := h.Settle(100); n != 0 {
		t.Errorf("%s: ahead of CAccept there are %d rounds", what, n)
	}
	acts(t, h, accept(7))
	holdOrder(t, what, h, 7, end+rest)
	if n := h.Settle(100); n != 0 {
		t.Errorf("%s: behind it there are %d rounds", what, n)
	}
}

// P25.3: who is forced ahead of the chief's asking again answers as he was
// forced; Forced of others is not so.
func TestForcedAnswers(t *testing.T) {
	for _, yes := range []bool{true, false} {
		h := upTo(t, 0, 1)
		acts(t, h, drop(0), drop(0), submit(8, 0), force(api.Stock, 7, yes), ring(api.Chief, 7))
		deliverAll(t, h)
		want := "shipped; forced yes, yes; - - - 2x1; commits shipped; forced"
		if !yes {
			want = "aborted; forced no, no; - - -; aborts; forced"
		}
		holdOrder(t, yes, h, 7, want)
		holdOrder(t, yes, h, 8, "shipped; yes, yes; - - - 2x1; commits shipped")
	}
}
