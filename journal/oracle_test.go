package journal_test

import (
	"bytes"
	"encoding/binary"
	"math/rand"
	"slices"
	"testing"

	"verdict/api"
	"verdict/journal"
	"verdict/wire"
)

// The chapter's words once more, by another way: files are made of pieces of which it is known whether they are whole, or looked through by writing again what is guessed.

// guessed tells the commands that a file has, from its beginning on: what is read must be what is written again, at the same place.
func guessed(file []byte) []api.Cmd {
	var size uint32
	if binary.Read(bytes.NewReader(file), binary.BigEndian, &size) != nil {
		return nil
	}
	t, err := wire.Parse(bytes.Clone(file[4:min(uint64(len(file)), 4+uint64(size))]))
	if err != api.OK {
		return nil
	}
	c, err := wire.Unpack(t)
	if err != api.OK || !bytes.HasPrefix(file, record(c)) {
		return nil
	}
	return append(cmds(c), guessed(file[len(record(c)):])...)
}

type dice struct{ *rand.Rand }

func (d dice) cmd() api.Cmd {
	l := story()
	c := l[d.Intn(len(l))]
	c.Session, c.Seq = d.Intn(4), d.Intn(20)
	if d.Intn(10) == 0 {
		c.Name = string(make([]byte, d.Intn(400)))
	}
	return c
}

func (d dice) cmds(most int) []api.Cmd {
	var l []api.Cmd
	for range d.Intn(most + 1) {
		l = append(l, d.cmd())
	}
	return l
}

// spoil changes a file a little, or not at all.
func (d dice) spoil(file []byte) []byte {
	n := len(file)
	from, to := d.Intn(n+1), d.Intn(n+1)
	from, to = min(from, to), max(from, to)
	switch d.Intn(7) {
	case 0:
		return file[:from]
	case 1:
		return file[from:]
	case 2:
		return slices.Delete(bytes.Clone(file), from, min(n, from+d.Intn(5)))
	case 3:
		return slices.Insert(bytes.Clone(file), from, make([]byte, d.Intn(5))...)
	case 4:
		return slices.Concat(file[:from], file[to:])
	case 5:
		return slices.Concat(file, file[from:to])
	}
	return file
}

func TestN2AgainstTheChapter(t *testing.T) {
	d := dice{rand.New(rand.NewSource(14))}
	torn, whole := 0, 0
	for range 3000 {
		l := d.cmds(6)
		file := records(l)
		recovers(t, file, l, len(file))
		for range d.Intn(3) {
			file = d.spoil(file)
		}
		want := guessed(file)
		place := len(records(want))
		recovers(t, file, want, place)
		if place < len(file) {
			torn++
		} else if place > 0 {
			whole++
		}
	}
	if torn < 500 || whole < 500 {
		t.Errorf("%d are torn, %d are whole", torn, whole)
	}
}

// Pieces behind one another: commands come back up to the first piece that is none, wherever it stands.
func TestN2Pieces(t *testing.T) {
	d := dice{rand.New(rand.NewSource(15))}
	for range 2000 {
		var file []byte
		ahead, behind := d.cmds(4), d.cmds(3)
		bad := record(d.cmd())
		switch d.Intn(4) {
		case 0: // another sum
			bad[len(bad)-1-d.Intn(4)]++
		case 1: // another byte that is said
			bad[4+d.Intn(len(bad)-8)]++
		case 2: // a tree that is no command
			b, _ := wire.Bytes(api.Tree{Tag: d.Intn(256), N: int64(d.Intn(9)), Kids: make([]api.Tree, d.Intn(7))})
			bad = framed(b)
		case 3: // a size that is beyond the file
			bad[d.Intn(2)] = byte(1 + d.Intn(255))
		}
		file = slices.Concat(records(ahead), bad, records(behind))
		recovers(t, file, ahead, len(records(ahead)))
	}
}

// Append goes on where Write ended, and Open takes back what is torn.
func TestN1N2GoOn(t *testing.T) {
	d := dice{rand.New(rand.NewSource(16))}
	for range 300 {
		l := d.cmds(5)
		file, err := journal.Write(l)
		if err != api.OK {
			t.Fatal(err)
		}
		for range 5 {
			c := d.cmd()
			longer, err := journal.Append(file, c)
			if err != api.OK || !bytes.Equal(longer, slices.Concat(file, record(c))) {
				t.Fatalf("%d bytes, %d comes", len(longer), err)
			}
			cut := 1 + d.Intn(len(longer)-len(file))
			_, whole, err := journal.Open(longer[:len(longer)-cut])
			if err != api.OK || !bytes.Equal(whole, file) {
				t.Fatalf("%d bytes, %d comes, not %d", len(whole), err, len(file))
			}
			l, file = append(l, c), longer
			recovers(t, file, l, len(file))
		}
	}
}
