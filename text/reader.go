package text

import (
	"math"
	"strconv"
	"strings"

	"umpire/api"
	"umpire/op"
	"umpire/result"
)

// reader takes the words of a line, one after the other. A step that does not find what it needs panics, so that none has to look at how those before it ended.
type reader struct {
	words []string // those that are left
}

// need panics unless it is so. Parse recovers.
func need(so bool) {
	if !so {
		panic(api.ErrForm)
	}
}

// word takes the next word.
func (r *reader) word() string {
	need(len(r.words) > 0)
	w := r.words[0]
	r.words = r.words[1:]
	return w
}

// has takes the next word if it is w, and tells whether it was.
func (r *reader) has(w string) bool {
	if len(r.words) == 0 || r.words[0] != w {
		return false
	}
	r.words = r.words[1:]
	return true
}

// number takes a number that is at most most.
func (r *reader) number(most int) int { return numberOf(r.word(), most) }

// kind takes the name of a kind.
func (r *reader) kind() uint8 {
	w := r.word()
	for n, k := range kinds() {
		if n != 0 && k.name == w {
			return uint8(n)
		}
	}
	panic(api.ErrForm)
}

// model takes the name of a model.
func (r *reader) model() uint8 {
	w := r.word()
	for n, name := range models {
		if name == w {
			return uint8(n)
		}
	}
	panic(api.ErrForm)
}

func (r *reader) config(x *api.Event) {
	x.Config.Model = r.model()
	x.Config.MaxOpen = r.number(api.MostOpen)
	x.Config.MaxStates = r.number(api.MostState)
	x.Config.MaxSteps = r.number(api.MostSteps)
	x.Config.Partition = r.has(partition)
	x.Config.Cut = r.has(cut)
	x.Config.Memo = r.has(memo)
}

func (r *reader) who(x *api.Event) {
	x.Client = uint8(r.number(api.Clients - 1))
	x.ID = uint16(r.number(math.MaxUint16))
}

func (r *reader) invoke(x *api.Event) {
	r.who(x)
	y, e := op.Parse(r.words)
	need(e == api.OK)
	x.Op, r.words = y, nil
}

func (r *reader) returned(x *api.Event) {
	r.who(x)
	y, e := result.Parse(strings.Join(r.words, space))
	need(e == api.OK)
	x.Res, r.words = y, nil
}

func (r *reader) begin(x *api.Event) {
	r.who(x)
	for len(r.words) > 0 {
		x.Txn = append(x.Txn, r.micro())
	}
}

func (r *reader) micro() api.Micro {
	if r.has(reads) {
		return api.Micro{Read: true, Key: uint8(r.number(api.Keys - 1))}
	}
	need(r.has(appends))
	return api.Micro{Key: uint8(r.number(api.Keys - 1)), V: uint16(r.number(math.MaxUint16))}
}

func (r *reader) commit(x *api.Event) {
	r.who(x)
	for len(r.words) > 0 {
		x.Reads = append(x.Reads, r.list())
	}
}

// list takes a list of numbers, which is one word.
func (r *reader) list() (l []uint16) {
	if r.has(empty) {
		return nil
	}
	for _, w := range strings.SplitN(r.word(), comma, api.MaxList+1) {
		l = append(l, uint16(numberOf(w, math.MaxUint16)))
	}
	return l
}

// numberOf returns the number that w is, which is at most most.
func numberOf(w string, most int) int {
	n, _ := strconv.Atoi(w)
	// A number has one text, so this finds all that can be wrong: leading zeros, a sign, or what is not a number.
	need(0 <= n && n <= most && strconv.Itoa(n) == w)
	return n
}
