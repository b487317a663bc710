package model

import (
	"strconv"
	"strings"

	"umpire/api"
	"umpire/kvmap"
	"umpire/lock"
	"umpire/queue"
	"umpire/register"
)

func numberText(s register.State) string { return decimal(uint16(s)) }

func queueText(s queue.State) string {
	var l []string
	for _, v := range queue.Values(s) {
		l = append(l, decimal(v))
	}
	return "[" + strings.Join(l, " ") + "]"
}

func mapText(s kvmap.State) string {
	var l []string
	for key := range uint8(api.Keys) {
		if s.Has>>key&1 == 1 {
			l = append(l, decimal(uint16(key))+":"+decimal(s.V[key]))
		}
	}
	return "{" + strings.Join(l, " ") + "}"
}

func lockText(s lock.State) string {
	client, held := lock.Holder(s)
	if !held {
		return "free"
	}
	return "held by " + decimal(uint16(client))
}

func decimal(n uint16) string { return strconv.Itoa(int(n)) }
