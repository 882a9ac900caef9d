package order

import (
	"strings"

	"wharfinger/amount"
	"wharfinger/api"
)

// scanner reads a text from its beginning on. Once something was not as it has
// to be it reads no further, so that it is enough to ask for that at the end.
type scanner struct {
	rest string
	bad  bool
}

// scan tells the order that the text has the form of, be it one that may be or
// not; false: it has no such form.
func scan(text string) (api.Order, bool) {
	s := scanner{rest: text}
	var o api.Order
	o.Id = s.behind(aheadId)
	o.Qty = s.behind(aheadQty)
	o.Item = s.behind(aheadItem)
	o.Price = s.behind(aheadPrice)
	o.Client = s.behind(aheadClient)
	// A text may go on for long, an order may not: what is left behind the
	// last step that may be is not read.
	for len(o.Steps) < api.MaxSteps && s.rest != "" && !s.bad {
		var step api.Step
		step.Service = s.behind(aheadService)
		step.N = s.behind(aheadN)
		o.Steps = append(o.Steps, step)
	}
	return o, s.rest == "" && !s.bad
}

// behind reads what has to stand ahead of a number, and the number.
func (s *scanner) behind(ahead string) int {
	rest, ok := strings.CutPrefix(s.rest, ahead)
	if s.bad || !ok {
		return s.fail()
	}
	s.rest = rest
	return s.number()
}

// number reads a number in the only form that it has: at least one digit, and
// no nought ahead of another one.
func (s *scanner) number() int {
	n, digits := 0, 0
reading:
	for digits < len(s.rest) {
		c := s.rest[digits]
		switch {
		case c < '0' || c > '9':
			break reading
		case digits > 0 && n == 0:
			return s.fail()
		}
		n = 10*n + int(c-'0')
		// No order has a greater one, and with more digits it would go round.
		if !amount.May(n) {
			return s.fail()
		}
		digits++
	}
	if digits == 0 {
		return s.fail()
	}
	s.rest = s.rest[digits:]
	return n
}

func (s *scanner) fail() int {
	s.bad = true
	return 0
}
