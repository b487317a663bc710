package world_test

import (
	"strconv"
	"strings"
	"testing"

	"umpire/api"
	"umpire/world"
)

// The operations that the tests perform, and their results.
var (
	read    = api.Op{F: api.Read}
	deq     = api.Op{F: api.Deq}
	acquire = api.Op{F: api.Acquire}
	release = api.Op{F: api.Release}

	done = api.Result{K: api.Done}
	none = api.Result{K: api.None}
	yes  = api.Result{K: api.Yes}
	no   = api.Result{K: api.No}
)

func write(a uint16) api.Op          { return api.Op{F: api.Write, A: a} }
func cas(a, b uint16) api.Op         { return api.Op{F: api.CAS, A: a, B: b} }
func enq(a uint16) api.Op            { return api.Op{F: api.Enq, A: a} }
func get(key uint8) api.Op           { return api.Op{F: api.Get, Key: key} }
func put(key uint8, a uint16) api.Op { return api.Op{F: api.Put, Key: key, A: a} }
func del(key uint8) api.Op           { return api.Op{F: api.Del, Key: key} }
func swap(key uint8, a, b uint16) api.Op {
	return api.Op{F: api.Swap, Key: key, A: a, B: b}
}
func value(v uint16) api.Result { return api.Result{K: api.Value, V: v} }

// on is x on that object.
func on(obj uint8, x api.Op) api.Op {
	x.Obj = obj
	return x
}

// call is an operation of a client.
type call struct {
	client uint8
	op     api.Op
}

// calls are those operations of that client.
func calls(client uint8, ops ...api.Op) []call {
	var l []call
	for _, x := range ops {
		l = append(l, call{client, x})
	}
	return l
}

// operations are those of each model, at their models.
func operations() [4][]api.Op {
	return [4][]api.Op{
		{read, write(0), write(5), write(65535), cas(0, 5), cas(5, 0), cas(5, 5), cas(65535, 256)},
		{deq, enq(0), enq(5), enq(65535)},
		{get(0), get(7), put(0, 0), put(3, 5), put(7, 65535), del(0), del(3), del(7), swap(0, 0, 5), swap(3, 5, 0), swap(7, 65535, 256)},
		{acquire, release},
	}
}

// state is one that is not the initial one: its text, its encoding, and the calls that lead to it.
type state struct {
	text, encoding string
	calls          []call
}

// states are some of each model, at their models.
func states() [4][]state {
	return [4][]state{
		{
			{"5", "\x00\x05", calls(0, write(5))},
			{"256", "\x01\x00", calls(1, write(1), cas(1, 256))},
			{"65535", "\xff\xff", calls(15, write(65535), read)},
		},
		{
			{"[0]", "\x00\x00", calls(0, enq(0))},
			{"[258 65535 0]", "\x01\x02\xff\xff\x00\x00", calls(1, enq(258), enq(65535), enq(0))},
			{"[2 1]", "\x00\x02\x00\x01", calls(15, enq(7), enq(2), deq, enq(1))},
		},
		{
			{"{0:0}", "\x01\x00\x00", calls(0, put(0, 0))},
			{"{2:258 7:65535}", "\x84\x01\x02\xff\xff", calls(1, put(7, 65535), put(2, 258))},
			{"{3:6}", "\x08\x00\x06", calls(15, put(0, 9), put(3, 5), del(0), swap(3, 5, 6))},
		},
		{
			{"held by 0", "\x01", calls(0, acquire)},
			{"held by 9", "\x0a", calls(9, release, acquire, acquire)},
			{"held by 15", "\x10", calls(15, acquire)},
		},
	}
}

// sample is a world, with what it must be: for each object the place of its state among those of its model, or -1.
type sample struct {
	w              world.World
	of             uint8
	states         [8]int
	text, encoding string
	listed         []uint8
}

// sampleOf is the world of the model with those states, made by steps on the highest object first.
func sampleOf(t *testing.T, of uint8, places [8]int) sample {
	t.Helper()
	s := sample{w: newOf(t, of), of: of, states: places}
	var texts []string
	for obj := range uint8(8) {
		if last := places[7-obj]; last >= 0 {
			for _, c := range states()[of][last].calls {
				s.w = after(t, s.w, call{c.client, on(7-obj, c.op)})
			}
		}
		if places[obj] >= 0 {
			one := states()[of][places[obj]]
			texts = append(texts, strconv.Itoa(int(obj))+"="+one.text)
			s.encoding += string([]byte{obj, 0, byte(len(one.encoding))}) + one.encoding
			s.listed = append(s.listed, obj)
		}
	}
	if s.text = strings.Join(texts, " "); len(texts) == 0 {
		s.text = "-"
	}
	return s
}

// each calls do with a world of each model for each set of objects that are listed in it, with three choices of their states.
func each(t *testing.T, do func(sample)) {
	t.Helper()
	for of := range uint8(4) {
		for set := range 256 {
			for first := range 3 {
				var places [8]int
				for obj := range places {
					places[obj] = -1
					if set>>obj&1 == 1 {
						places[obj] = (first + obj) % 3
					}
				}
				do(sampleOf(t, of, places))
			}
		}
	}
}

// some are a few of these worlds of each model: none, one, several and all of their objects are listed.
func some(t *testing.T) []sample {
	t.Helper()
	var l []sample
	for of := range uint8(4) {
		for _, places := range [][8]int{
			{-1, -1, -1, -1, -1, -1, -1, -1},
			{0, -1, -1, -1, -1, -1, -1, -1},
			{-1, -1, -1, -1, -1, -1, -1, 2},
			{-1, -1, -1, 1, -1, -1, -1, -1},
			{-1, 0, -1, -1, 1, 2, -1, -1},
			{0, 1, 2, 0, 1, 2, 0, 1},
			{2, 2, 2, 2, 2, 2, 2, 2},
		} {
			l = append(l, sampleOf(t, of, places))
		}
	}
	return l
}
