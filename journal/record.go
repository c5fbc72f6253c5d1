package journal

import (
	"verdict/api"
	"verdict/wire"
)

// headBytes is how many bytes of a record tell how many follow.
const headBytes = 4

// recordBehind is c's record, if there is room for it behind so many bytes.
func recordBehind(ahead int, c api.Cmd) ([]byte, api.Errno) {
	b, err := wire.Written(c)
	if err != api.OK {
		return nil, err
	}
	if len(b) > api.MaxJournal-headBytes-ahead {
		return nil, api.ErrMany
	}
	return append(head(uint32(len(b))), b...), api.OK
}

func head(n uint32) []byte {
	return []byte{byte(n >> 24), byte(n >> 16), byte(n >> 8), byte(n)}
}

// said is the number that the head at the beginning of b says.
func said(b []byte) uint32 {
	return uint32(b[0])<<24 | uint32(b[1])<<16 | uint32(b[2])<<8 | uint32(b[3])
}

// firstRecord tells the command whose record b begins with, and how many bytes that has, if it is whole.
func firstRecord(b []byte) (api.Cmd, int, bool) {
	if len(b) < headBytes {
		return api.Cmd{}, 0, false
	}
	n, rest := uint64(said(b)), b[headBytes:]
	// Slicing alone would not refuse bytes of the spare room.
	if n > uint64(len(rest)) {
		return api.Cmd{}, 0, false
	}
	c, ok := commandIn(rest[:n])
	return c, headBytes + int(n), ok
}

// commandIn tells the command that b says, if it says one.
func commandIn(b []byte) (api.Cmd, bool) {
	t, err := wire.Parse(b)
	if err != api.OK {
		return api.Cmd{}, false
	}
	c, err := wire.Unpack(t)
	return c, err == api.OK
}
