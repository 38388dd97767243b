package image

import (
	"bytes"
	"cmp"

	"linnet/api"
)

const home = ".archive"

// Copies is where they stand.
func Copies() []string {
	return []string{home + "/a", home + "/b", home + "/c"}
}

// settle makes the store hold what was voted for at the copies' places, and nothing else.
func (a *Archive) settle() api.Errno {
	// The directory is asked for even where it must be there, so that a store without power is told of.
	err := a.makeHome()
	if err == api.OK && a.gen == 0 {
		err = a.clear()
	}
	if err == api.OK {
		_, err = a.Scrub()
	}
	return err
}

func (a *Archive) makeHome() api.Errno {
	err := a.store.Mkdir(home)
	if now, _ := a.store.Stat(home); err == api.ErrThere && now.Kind == api.Dir {
		return api.OK
	}
	return err
}

// clear takes away what a first Commit that was cut off left. Were it to stay, a rotten copy might be read again later, or three be there of which none was ever whole.
func (a *Archive) clear() api.Errno {
	for _, c := range Copies() {
		if now, _ := a.store.Stat(c); now.Kind != api.File {
			continue
		}
		if err := a.store.Remove(c); err != api.OK {
			return err
		}
	}
	return a.store.SyncDir()
}

// bad is the Archive's page, and the places of copies that are not it; where nothing was committed there is none of either.
func (a *Archive) bad() (page []byte, bad []string) {
	if a.gen == 0 {
		return nil, nil
	}
	page, _ = pageOf(a.gen, a.refs)
	for _, c := range Copies() {
		if b, _ := a.store.Read(c); !bytes.Equal(b, page) {
			bad = append(bad, c)
		}
	}
	return page, bad
}

// write makes copies the page, one by one, each safe ahead of the next one. The first one takes room for all of them, so that a full store refuses it ahead of any change, and none of the others.
func (a *Archive) write(copies []string, page []byte) api.Errno {
	room, err := a.roomFor(copies, len(page))
	if err != api.OK {
		return err
	}
	b := make([]byte, room)
	copy(b, page)
writing:
	for _, c := range copies {
		for _, act := range a.acts(c, b, len(page)) {
			if err = act(); err != api.OK {
				break writing
			}
		}
		b = page
	}
	a.dead = err == api.ErrOff
	return err
}

// roomFor is how long the first copy is made, so that cutting it off leaves what the others lack. Something that is no file is told of ahead of any change.
func (a *Archive) roomFor(copies []string, size int) (int, api.Errno) {
	room := size
	for i, c := range copies {
		now, _ := a.store.Stat(c) // of what is not there the size is 0
		if now.Kind == api.Dir {
			return 0, api.ErrThere
		}
		if i > 0 {
			room += max(0, size-now.Size)
		}
	}
	return room, api.OK
}

// acts is what makes a copy, so many of these bytes, and safe.
func (a *Archive) acts(c string, b []byte, size int) []func() api.Errno {
	return []func() api.Errno{
		func() api.Errno { return a.put(c, b) },
		func() api.Errno { return a.store.Truncate(c, size) },
		func() api.Errno { return a.store.Sync(c) },
		a.store.SyncDir,
	}
}

// put writes over what is there, or makes the file; no file stays that there was no room for.
func (a *Archive) put(c string, b []byte) api.Errno {
	if _, err := a.store.Stat(c); err == api.OK {
		return a.store.Write(c, 0, b)
	}
	if err := a.store.Create(c); err != api.OK {
		return err
	}
	if err := a.store.Write(c, 0, b); err != api.OK {
		return cmp.Or(a.store.Remove(c), err)
	}
	return api.OK
}
