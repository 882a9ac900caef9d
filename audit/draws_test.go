package audit_test

import "wharfinger/api"

// draws is a row of numbers that look like no rule.
type draws int

func (d *draws) next(n int) int {
	*d = (*d*1103515245 + 12345) % (1 << 31)
	return int(*d>>8) % n
}

// drawn is some order of an id: what it is hangs on that alone.
func drawn(id int) api.Order {
	o := sized(id, id%4)
	o.Item, o.Qty, o.Client, o.Price = id%3, 1+id%4, id%2, 10+id%7
	return o
}

// mood is how often things are drawn that are no delivery, in a hundred.
type mood struct{ loss, crash, force, cancel int }

// moods are those in which long runs are drawn.
var moods = []mood{{0, 0, 0, 0}, {10, 0, 0, 1}, {3, 3, 0, 2}, {5, 5, 3, 2}, {20, 8, 0, 0}, {1, 1, 30, 5}, {0, 15, 9, 1}}

// draw is some command where so many messages are on their way; few are not
// about orders 1 to ids, about a message on its way, or about a node.
func (d *draws) draw(ids, mail int, m mood) api.Cmd {
	id, node, n := 1+d.next(ids), d.next(api.Nodes), d.next(100)
	switch {
	case d.next(50) == 0:
		return api.Cmd{Kind: d.next(13) - 1, Node: d.next(10) - 1, Id: d.next(1002) - 1, I: d.next(300) - 1, Order: drawn(id)}
	case n < m.loss:
		return []api.Cmd{drop(d.next(mail + 1)), double(d.next(mail + 1))}[d.next(2)]
	case n < m.loss+m.crash:
		return crash(node, d.next(6)-1, d.next(30)-1)
	case n < m.loss+2*m.crash:
		return start(node)
	case n < m.loss+2*m.crash+m.force:
		return force(1+d.next(2), id, d.next(2) == 0)
	case n < m.loss+2*m.crash+m.force+m.cancel:
		return []api.Cmd{cancel(id), accept(id)}[d.next(2)]
	}
	switch d.next(8) {
	case 0:
		return api.Cmd{Kind: api.CSubmit, Order: drawn(id)}
	case 1:
		return ring(d.next(3), id)
	case 2, 3:
		return deliver(d.next(mail + 1))
	}
	return deliver(0)
}
