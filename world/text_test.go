package world_test

import (
	"testing"

	"umpire/api"
)

// textIs tells whether that is the text of the world of the model to which those calls lead.
func textIs(t *testing.T, of uint8, want string, l ...call) {
	t.Helper()
	if got := after(t, newOf(t, of), l...).Text(); got != want {
		t.Errorf("Text of a world of %d behind %v: %q, and not %q", of, l, got, want)
	}
}

// TestText is P14.3: of each model, with no object listed, one, several and all.
func TestText(t *testing.T) {
	all := func(x api.Op) []call {
		var l []call
		for obj := range uint8(8) {
			l = append(l, call{15 - obj, on((obj+3)%8, x)})
		}
		return l
	}
	for of := range uint8(4) {
		textIs(t, of, "-")
	}
	textIs(t, api.Register, "0=1", calls(0, write(1))...)
	textIs(t, api.Register, "7=65535", calls(0, on(7, write(65535)))...)
	textIs(t, api.Register, "1=10 4=258", calls(0, on(4, write(258)), on(1, write(10)))...)
	textIs(t, api.Register, "0=7 1=7 2=7 3=7 4=7 5=7 6=7 7=7", all(write(7))...)
	textIs(t, api.Queue, "5=[0]", calls(0, on(5, enq(0)))...)
	textIs(t, api.Queue, "2=[3] 5=[2 1]", calls(0, on(5, enq(2)), on(2, enq(3)), on(5, enq(1)), on(6, enq(4)), on(6, deq))...)
	textIs(t, api.Queue, "0=[9] 1=[9] 2=[9] 3=[9] 4=[9] 5=[9] 6=[9] 7=[9]", all(enq(9))...)
	textIs(t, api.Map, "3={7:0}", calls(0, on(3, put(7, 0)))...)
	textIs(t, api.Map, "0={2:5} 3={0:1 7:65535}", calls(0, on(3, put(7, 65535)), on(0, put(2, 5)), on(3, put(0, 1)))...)
	textIs(t, api.Map, "0={1:2} 1={1:2} 2={1:2} 3={1:2} 4={1:2} 5={1:2} 6={1:2} 7={1:2}", all(put(1, 2))...)
	textIs(t, api.Lock, "0=held by 12", calls(12, acquire)...)
	textIs(t, api.Lock, "2=held by 0 6=held by 15", call{15, on(6, acquire)}, call{0, on(2, acquire)}, call{3, on(2, release)})
	textIs(t, api.Lock, "0=held by 10 1=held by 9 2=held by 8 3=held by 15 4=held by 14 5=held by 13 6=held by 12 7=held by 11", all(acquire)...)
}

// TestTextOfEach is P14.3: of worlds of each model, for each set of objects that are listed.
func TestTextOfEach(t *testing.T) {
	each(t, func(s sample) {
		if got := s.w.Text(); got != s.text {
			t.Errorf("Text of % x of %d: %q, and not %q", s.encoding, s.of, got, s.text)
		}
	})
}
