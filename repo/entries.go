package repo

import (
	"slices"
	"strings"

	"verdict/api"
	"verdict/table"
)

// done is what the command makes of the entries, which it may change, and the reply. Where something is wrong they are left as they are.
func done(entries []api.Entry, c api.Cmd) ([]api.Entry, api.Reply) {
	switch c.Kind {
	case api.CmdDeploy:
		return deployed(entries, c.Table)
	case api.CmdRollback:
		return entries, rolledBack(entries, c.Name, c.To)
	case api.CmdDrop:
		return dropped(entries, c.Name)
	}
	return entries, refused(api.ErrKind)
}

func deployed(entries []api.Entry, t api.Table) ([]api.Entry, api.Reply) {
	if err := table.Wrong(t); err != api.OK {
		return entries, refused(err)
	}
	at, found := entryAt(entries, t.Name)
	if !found {
		if len(entries) >= api.MaxEntries {
			return entries, refused(api.ErrMany)
		}
		entries = slices.Insert(entries, at, api.Entry{Name: t.Name, Next: 1})
	}
	entries[at] = withNext(entries[at], t)
	return entries, counting(entries[at])
}

// withNext is e with t as the version that counts.
func withNext(e api.Entry, t api.Table) api.Entry {
	e.Kept = pushed(e.Kept, api.Version{Number: e.Next, Table: t}, api.MaxKept)
	e.Now = e.Next
	e.Next++
	return e
}

func rolledBack(entries []api.Entry, name string, to int) api.Reply {
	at, found := entryAt(entries, name)
	if !found {
		return refused(api.ErrNone)
	}
	if versionAt(entries[at].Kept, to) < 0 {
		return refused(api.ErrOld)
	}
	entries[at].Now = to
	return counting(entries[at])
}

func dropped(entries []api.Entry, name string) ([]api.Entry, api.Reply) {
	at, found := entryAt(entries, name)
	if !found {
		return entries, refused(api.ErrNone)
	}
	return slices.Delete(entries, at, at+1), api.Reply{}
}

// counting is the reply that tells which version of e counts now.
func counting(e api.Entry) api.Reply {
	return api.Reply{Version: e.Now}
}

// entryAt is where the name's entry is, or would be put, and whether there is one.
func entryAt(entries []api.Entry, name string) (int, bool) {
	return slices.BinarySearchFunc(entries, name, func(e api.Entry, name string) int { return strings.Compare(e.Name, name) })
}

// versionAt is where the version with that number is, below 0 if it is not kept.
func versionAt(kept []api.Version, number int) int {
	return slices.IndexFunc(kept, func(v api.Version) bool { return v.Number == number })
}
