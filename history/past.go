package history

import (
	"maps"

	"umpire/api"
)

// noID is the greatest ID where there is none.
const noID = -1

// past is what counts of the events that were accepted.
type past struct {
	config     api.Config
	configured bool
	open       [api.Clients]api.Event // the Invoke or Begin of what each client has open; of no kind, if it has nothing open
	last       int                    // the greatest ID
	appended   map[api.Micro]struct{} // the appends of all transactions, whatever became of these
}

// newPast returns the past in which nothing was accepted.
func newPast() *past {
	return &past{last: noID, appended: map[api.Micro]struct{}{}}
}

// copy returns an equal past of its own. What is open may be in both: nobody writes to it.
func (p *past) copy() *past {
	q := *p
	q.appended = maps.Clone(p.appended)
	return &q
}

// busy tells whether the client has something open.
func (p *past) busy(client uint8) bool { return p.open[client].Kind != 0 }

// accept adds x, which may follow.
func (p *past) accept(x api.Event) {
	switch x.Kind {
	case api.Configure:
		p.config, p.configured = x.Config, true
	case api.Begin:
		p.add(x.Txn)
		fallthrough
	case api.Invoke:
		p.open[x.Client], p.last = own(x), int(x.ID)
	default:
		p.open[x.Client] = api.Event{}
	}
}

// add adds what a transaction appends.
func (p *past) add(l []api.Micro) {
	for _, m := range l {
		if !m.Read {
			p.appended[m] = struct{}{}
		}
	}
}

// own returns an Invoke or Begin with lists of its own.
func own(x api.Event) api.Event {
	x.Txn = append([]api.Micro(nil), x.Txn...)
	x.Reads = nil // it has none, but what is handed in may be an empty list of somebody's memory
	return x
}
