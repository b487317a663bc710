package history

import (
	"slices"

	"umpire/api"
	"umpire/event"
	"umpire/op"
	"umpire/result"
)

// refusal returns why x may not follow, or OK.
func (p *past) refusal(x api.Event) api.Errno {
	if e := event.Check(x); e != api.OK {
		return e
	}
	if p.configured == (x.Kind == api.Configure) { // it comes first, and only then
		return api.ErrState
	}
	if foreign(p.config.Model, x.Kind) {
		return api.ErrForeign
	}
	switch x.Kind {
	case api.Configure:
		return api.OK
	case api.Invoke, api.Begin:
		return p.mayOpen(x)
	}
	return p.mayEnd(x)
}

// foreign tells whether events of this kind do not occur in histories of the model.
func foreign(model, kind uint8) bool {
	switch kind {
	case api.Invoke, api.Return:
		return model == api.Append
	case api.Begin, api.Commit, api.Abort:
		return model != api.Append
	}
	return false
}

// mayOpen returns why an Invoke or Begin may not follow, or OK.
func (p *past) mayOpen(x api.Event) api.Errno {
	switch {
	case p.busy(x.Client):
		return api.ErrBusy
	case int(x.ID) <= p.last:
		return api.ErrThere
	case x.Kind == api.Invoke:
		return op.Check(p.config.Model, x.Op)
	case readsOwn(x.Txn):
		return api.ErrForeign
	case p.repeats(x.Txn):
		return api.ErrThere
	}
	return api.OK
}

// mayEnd returns why a Return, Info, Commit or Abort may not follow, or OK.
func (p *past) mayEnd(x api.Event) api.Errno {
	opened := p.open[x.Client]
	if !p.busy(x.Client) || opened.ID != x.ID {
		return api.ErrNone
	}
	switch {
	case x.Kind == api.Return:
		return result.May(opened.Op.F, x.Res)
	case x.Kind == api.Commit && len(x.Reads) != reads(opened.Txn):
		return api.ErrForeign
	}
	return api.OK
}

// readsOwn tells whether a read comes after an append of its key.
func readsOwn(l []api.Micro) bool {
	var appended [api.Keys]bool
	for _, m := range l {
		if m.Read && appended[m.Key] {
			return true
		}
		appended[m.Key] = !m.Read
	}
	return false
}

// repeats tells whether a number is appended to a key to which it was appended before, in l or by a transaction that was accepted.
func (p *past) repeats(l []api.Micro) bool {
	for i, m := range l {
		if m.Read {
			continue
		}
		if _, there := p.appended[m]; there || slices.Contains(l[:i], m) {
			return true
		}
	}
	return false
}

// reads returns how many reads there are.
func reads(l []api.Micro) int {
	n := 0
	for _, m := range l {
		if m.Read {
			n++
		}
	}
	return n
}
