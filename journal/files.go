package journal

import (
	"cmp"
	"slices"
	"strconv"
	"strings"

	"linnet/api"
	"linnet/path"
)

const (
	home   = ".journal"
	digits = len("2147483647") // of the greatest ID
)

// Home is where it stands.
func Home() string { return home }

// fileOf is where the record of an ID stands. Each has a file of its own, so that Done asks for no room, and what is done leaves no bytes; noughts ahead put the files one behind the other by their IDs.
func fileOf(id int) string {
	n := strconv.Itoa(id)
	return path.Join(home, strings.Repeat("0", digits-len(n))+n)
}

// ids are those that have a file, rising; what else may be in the directory is left alone.
func (j *Journal) ids() []int {
	var ids []int
	for _, now := range j.store.List() {
		id, _ := strconv.Atoi(path.Name(now.Path)) // 0 of a name that is no number
		if id > 0 && isNum(id) && now.Kind == api.File && now.Path == fileOf(id) {
			ids = append(ids, id)
		}
	}
	return ids
}

// read takes up the records, one behind the other. The first that is none ends it: an Add that was cut off left it, and it is told, with what is behind it.
func (j *Journal) read() (left []int) {
	now, _ := j.store.Stat(home)
	j.last = now.Meta
	left = j.ids()
reading:
	for len(left) > 0 {
		b, _ := j.store.Read(fileOf(left[0]))
		i, ok := decode(b)
		switch {
		case ok:
			i.ID, left = left[0], left[1:]
			j.hold(i)
		default:
			break reading
		}
	}
	return left
}

func (j *Journal) makeHome() api.Errno {
	// It is asked for even where it must be there, so that a store without power is told of.
	err := j.store.Mkdir(home)
	if now, _ := j.store.Stat(home); err == api.ErrThere && now.Kind == api.Dir {
		return api.OK
	}
	return err
}

// clear takes away what was left, so that the next record may stand there. It need not be safe: going from the last one on, whatever a crash brings back begins with what is no record.
func (j *Journal) clear(left []int) api.Errno {
	for _, id := range slices.Backward(left) {
		if err := j.store.Remove(fileOf(id)); err != api.OK {
			return err
		}
	}
	return api.OK
}

// keep makes a record, safe; behind a crash that comes ahead of that its seal tells whether it is whole. No file stays that there was no room for.
func (j *Journal) keep(i Intent) api.Errno {
	file := fileOf(i.ID)
	err := j.do(
		func() api.Errno { return j.store.Create(file) },
		func() api.Errno { return j.store.Write(file, 0, encode(i)) },
		func() api.Errno { return j.store.Sync(file) },
		j.store.SyncDir,
	)
	if err == api.ErrFull {
		return cmp.Or(j.do(func() api.Errno { return j.store.Remove(file) }), err)
	}
	return err
}

// drop takes a record away, safely. Of the last ID no file tells then, so the directory's meta tells of it, ahead of that: it is safe at once, and asks for no room.
func (j *Journal) drop(id int) api.Errno {
	var acts []func() api.Errno
	if id == j.last {
		acts = append(acts, func() api.Errno { return j.store.SetMeta(home, id) })
	}
	acts = append(acts, func() api.Errno { return j.store.Remove(fileOf(id)) }, j.store.SyncDir)
	return j.do(acts...)
}

// do does acts, one behind the other, up to the first that errs.
func (j *Journal) do(acts ...func() api.Errno) (err api.Errno) {
	for _, act := range acts {
		if err = act(); err != api.OK {
			break
		}
	}
	j.dead = err == api.ErrOff
	return err
}
