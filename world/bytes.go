package world

import (
	"umpire/api"
	"umpire/model"
)

// head counts the bytes before those of a state: of the object's number, and of how many bytes there are.
const head = 1 + 2

// Encode returns the encoding of w. P14.3.
func (w World) Encode() string {
	var b []byte
	for obj := range w.Objects() {
		s := w.objects[obj].Encode()
		// A queue of more than 32767 numbers has more bytes than 16 bits can tell: the lowest 16 bits of how many are written.
		b = append(b, obj, byte(len(s)>>8), byte(len(s)))
		b = append(b, s...)
	}
	return string(b)
}

// Decode returns the world of the model whose encoding is t. P14.3.
func Decode(m uint8, t string) (World, api.Errno) {
	w, e := New(m)
	if e != api.OK {
		return World{}, e
	}
	for least := uint8(0); t != ""; {
		obj, encoding, rest, e := take(t)
		if e != api.OK {
			return World{}, e
		}
		if obj < least || obj >= api.Objects {
			return World{}, api.ErrForm
		}
		s, e := model.Decode(m, encoding)
		if e != api.OK {
			return World{}, e
		}
		if s.Initial() {
			return World{}, api.ErrForm
		}
		w.objects[obj] = s
		least, t = obj+1, rest
	}
	return w, api.OK
}

// take returns the first object's number in t, the encoding of its state, and what is behind them.
func take(t string) (obj uint8, encoding, rest string, e api.Errno) {
	if len(t) < head {
		return 0, "", "", api.ErrTorn
	}
	end := head + (int(t[1])<<8 | int(t[2]))
	if len(t) < end {
		return 0, "", "", api.ErrTorn
	}
	return t[0], t[head:end], t[end:], api.OK
}
