package lsm

import (
	"bytes"
	"maps"
	"slices"

	"sawyer/api"
	"sawyer/cat"
	"sawyer/disk"
	"sawyer/edit"
	"sawyer/merge"
	"sawyer/table"
)

// A draft is a table that is to be written: its note, and its file's bytes.
type draft struct {
	note edit.Meta
	raw  []byte
}

// drafts are entries as tables of a level, their numbers from next on.
func drafts(l []api.Entry, level, next int) []draft {
	var out []draft
	for i, piece := range merge.Split(l, api.TableSize) {
		raw, _ := table.Build(piece) // pruned by few pins, a key's versions are never more than a table has
		note := edit.Meta{Num: next + i, Level: level, Count: len(piece), First: piece[0].Key, Last: piece[len(piece)-1].Key}
		out = append(out, draft{note, raw})
	}
	return out
}

func (x draft) file() string { return cat.Table(x.note.Num) }

// cost is what the files take of a disk's capacity.
func cost(l []draft) int {
	sum := 0
	for _, x := range l {
		sum += api.FileCost + len(x.file()) + len(x.raw)
	}
	return sum
}

func notes(l []draft) []edit.Meta {
	var out []edit.Meta
	for _, x := range l {
		out = append(out, x.note)
	}
	return out
}

func nums(l []edit.Meta) []int {
	var out []int
	for _, m := range l {
		out = append(out, m.Num)
	}
	return out
}

// turned are tables without old ones, and with fresh ones, in a map of its own.
func turned(tables map[int]*table.Table, old []edit.Meta, fresh []draft) map[int]*table.Table {
	out := maps.Clone(tables)
	for _, m := range old {
		delete(out, m.Num)
	}
	for _, x := range fresh {
		out[x.note.Num], _ = table.Parse(x.raw) // they are built bytes
	}
	return out
}

// save writes tables' files, and lets a version count.
func save(d *disk.Disk, l []draft, v edit.Version) api.Errno {
	for _, x := range l {
		if f := write(d, x.file(), x.raw); f != api.OK {
			return f
		}
	}
	return cat.Save(d, v)
}

// write lays a file onto the disk, surely. If there is one, the power cut it off, and it is no beginning for this one.
func write(d *disk.Disk, name string, b []byte) api.Errno {
	if d.Has(name) {
		if f := d.Remove(name); f != api.OK {
			return f
		}
	}
	for chunk := range slices.Chunk(b, api.MaxChunk) {
		if f := d.Append(name, chunk); f != api.OK {
			return f
		}
	}
	return d.Sync(name)
}

// counts: is it the version that counts on the disk? It may be, where the Save of it failed: the power may go behind the switch, too.
func counts(d *disk.Disk, v edit.Version) bool {
	now, _ := cat.Load(d) // beside an error its Gen is 0, which is none that was saved
	return now.Gen == v.Gen
}

// load is the table of a note.
func load(d *disk.Disk, m edit.Meta) (*table.Table, api.Errno) {
	raw, f := d.Read(cat.Table(m.Num))
	if f != api.OK {
		return nil, api.ErrCorrupt
	}
	t, f := table.Parse(raw)
	if f != api.OK {
		return nil, f
	}
	if t.Count() != m.Count || !bytes.Equal(t.First(), m.First) || !bytes.Equal(t.Last(), m.Last) {
		return nil, api.ErrCorrupt
	}
	return t, api.OK
}
