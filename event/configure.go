package event

import (
	"umpire/api"
	"umpire/codec"
)

// The flags of a config.
const (
	partition = 1 << iota
	cut
	memo
)

func ofConfigure(x api.Event) api.Event {
	return api.Event{Kind: x.Kind, Config: x.Config}
}

func fitsConfigure(x api.Event) bool {
	c := x.Config
	return c.Model <= api.Append &&
		within(c.MaxOpen, api.MostOpen) &&
		within(c.MaxStates, api.MostState) &&
		within(c.MaxSteps, api.MostSteps)
}

func writeConfigure(w *codec.Writer, x api.Event) {
	w.U8(x.Config.Model)
	w.U8(flags(x.Config))
	w.U8(uint8(x.Config.MaxOpen))
	w.U16(uint16(x.Config.MaxStates))
	w.U32(uint32(x.Config.MaxSteps))
}

func readConfigure(r *codec.Reader, x *api.Event) api.Errno {
	x.Config.Model = r.U8()
	f := r.U8()
	x.Config.Partition = f&partition != 0
	x.Config.Cut = f&cut != 0
	x.Config.Memo = f&memo != 0
	x.Config.MaxOpen = int(r.U8())
	x.Config.MaxStates = int(r.U16())
	x.Config.MaxSteps = int(r.U32())
	return r.Err()
}

func flags(c api.Config) uint8 {
	f := uint8(0)
	if c.Partition {
		f |= partition
	}
	if c.Cut {
		f |= cut
	}
	if c.Memo {
		f |= memo
	}
	return f
}

// within tells whether n is from 1 to most.
func within(n, most int) bool { return 1 <= n && n <= most }
