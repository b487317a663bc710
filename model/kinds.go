package model

import (
	"umpire/api"
	"umpire/kvmap"
	"umpire/lock"
	"umpire/queue"
	"umpire/register"
)

// kind is what the states of one model have in common. Its functions take objects of that model alone.
type kind struct {
	initial func() object
	step    func(o object, client uint8, x api.Op) (object, api.Result, api.Errno)
	encode  func(object) string
	text    func(object) string
	decode  func(string) (object, api.Errno)
	idle    func(f uint8) bool
}

// kinds make the kinds, and stand at the numbers of their models. Each makes its own alone: a step asks for one, and took 2.5 to 4 times as long when all four were made for it.
func kinds() [api.Lock + 1]func() kind {
	return [...]func() kind{api.Register: registers, api.Queue: queues, api.Map: maps, api.Lock: locks}
}

// find returns the kind of the model, and whether there is one.
func find(model uint8) (kind, bool) {
	if model > api.Lock {
		return kind{}, false
	}
	return kinds()[model](), true
}

func registers() kind {
	return kind{
		initial: initialOf(api.Register, register.New),
		step:    stepOf(byAnyone(register.Step)),
		encode:  stringOf(register.Encode),
		text:    stringOf(numberText),
		decode:  decodeOf(api.Register, register.Decode),
		idle:    register.Idle,
	}
}

func queues() kind {
	return kind{
		initial: initialOf(api.Queue, queue.New),
		step:    stepOf(byAnyone(queue.Step)),
		encode:  stringOf(queue.Encode),
		text:    stringOf(queueText),
		decode:  decodeOf(api.Queue, queue.Decode),
		idle:    queue.Idle,
	}
}

func maps() kind {
	return kind{
		initial: initialOf(api.Map, kvmap.New),
		step:    stepOf(byAnyone(kvmap.Step)),
		encode:  stringOf(kvmap.Encode),
		text:    stringOf(mapText),
		decode:  decodeOf(api.Map, kvmap.Decode),
		idle:    kvmap.Idle,
	}
}

func locks() kind {
	return kind{
		initial: initialOf(api.Lock, lock.New),
		step:    stepOf(lock.Step),
		encode:  stringOf(lock.Encode),
		text:    stringOf(lockText),
		decode:  decodeOf(api.Lock, lock.Decode),
		idle:    lock.Idle,
	}
}
