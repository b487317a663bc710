package model_test

import (
	"strconv"
	"testing"

	"umpire/api"
)

// TestTextOfRegister is P13.3.
func TestTextOfRegister(t *testing.T) {
	for n, want := range map[uint16]string{0: "0", 1: "1", 9: "9", 10: "10", 99: "99", 100: "100", 258: "258", 10000: "10000", 32768: "32768", 65535: "65535"} {
		is(t, made(t, api.Register, write(n)), api.Register, want, string([]byte{byte(n >> 8), byte(n)}))
	}
}

// TestTextOfQueue is P13.3: of no number, of one, and of several, the first one first.
func TestTextOfQueue(t *testing.T) {
	is(t, made(t, api.Queue), api.Queue, "[]", "")
	is(t, made(t, api.Queue, enq(0)), api.Queue, "[0]", "\x00\x00")
	is(t, made(t, api.Queue, enq(10)), api.Queue, "[10]", "\x00\x0a")
	is(t, made(t, api.Queue, enq(9), enq(10), enq(65535), enq(0), enq(9)), api.Queue, "[9 10 65535 0 9]", "\x00\x09\x00\x0a\xff\xff\x00\x00\x00\x09")
	is(t, made(t, api.Queue, enq(9), enq(10), enq(65535), deq), api.Queue, "[10 65535]", "\x00\x0a\xff\xff")
	is(t, made(t, api.Queue, enq(9), deq), api.Queue, "[]", "")
}

// TestTextOfMap is P13.3: of no key, of each one, and of all, put in any order.
func TestTextOfMap(t *testing.T) {
	is(t, made(t, api.Map), api.Map, "{}", "\x00")
	for key := range uint8(8) {
		is(t, made(t, api.Map, put(key, 0)), api.Map, "{"+strconv.Itoa(int(key))+":0}", string([]byte{1 << key, 0, 0}))
		is(t, made(t, api.Map, put(key, 65535)), api.Map, "{"+strconv.Itoa(int(key))+":65535}", string([]byte{1 << key, 255, 255}))
	}
	for first := range uint8(8) {
		for _, by := range []uint8{1, 3, 5, 7} {
			var ops []api.Op
			for i := range uint8(8) {
				key := (first + i*by) % 8
				ops = append(ops, put(key, 9+uint16(key)))
			}
			is(t, made(t, api.Map, ops...), api.Map, "{0:9 1:10 2:11 3:12 4:13 5:14 6:15 7:16}", "\xff\x00\x09\x00\x0a\x00\x0b\x00\x0c\x00\x0d\x00\x0e\x00\x0f\x00\x10")
			ops = append(ops, del(0), del(3), del(7))
			is(t, made(t, api.Map, ops...), api.Map, "{1:10 2:11 4:13 5:14 6:15}", "\x76\x00\x0a\x00\x0b\x00\x0d\x00\x0e\x00\x0f")
		}
	}
}

// TestTextOfLock is P13.3: free, and held by each client.
func TestTextOfLock(t *testing.T) {
	is(t, newOf(t, api.Lock), api.Lock, "free", "\x00")
	for client := range uint8(16) {
		held := after(t, newOf(t, api.Lock), call{client, acquire})
		is(t, held, api.Lock, "held by "+strconv.Itoa(int(client)), string([]byte{client + 1}))
		is(t, after(t, held, call{client, release}), api.Lock, "free", "\x00")
	}
}
