package vote

import (
	"bytes"
	"math/rand"
	"testing"
)

// pairWins holds that two alike pages win, wherever what the third copy became stands.
func pairWins(t *testing.T, what string, p Page, became []byte) {
	t.Helper()
	b := bytesOf(p)
	for place := range 3 {
		copies := [3][]byte{b, b, b}
		copies[place] = became
		want := verdict{p: p, minority: []int{place}}
		if bytes.Equal(became, b) {
			want.minority = nil
		}
		votes(t, what, copies[0], copies[1], copies[2], want)
	}
}

func TestP9_3WhateverOneCopyBecomes(t *testing.T) {
	for _, p := range []Page{{Gen: 1}, page(258, "xy"), {Gen: 1<<31 - 1, Body: text(60)}} {
		b := bytesOf(p)
		for i := range b {
			for _, x := range []byte{0, 1, 0x80, 0xff} {
				changed := bytes.Clone(b)
				changed[i] ^= x
				pairWins(t, "another byte", p, changed)
			}
			pairWins(t, "cut off", p, b[:i])
			pairWins(t, "cut off in front", p, b[i+1:])
		}
		pairWins(t, "more", p, append(bytes.Clone(b), 0))
		for _, c := range someCopies() {
			pairWins(t, "another copy", p, c.b)
		}
		random := rand.New(rand.NewSource(93))
		for range 200 {
			became := make([]byte, random.Intn(100))
			random.Read(became)
			pairWins(t, "any bytes", p, became)
			other := Page{Gen: 1 + random.Intn(1<<31-1), Body: became}
			pairWins(t, "any page", p, bytesOf(other))
			other.Gen = p.Gen
			pairWins(t, "any page of that Gen", p, bytesOf(other))
		}
	}
}

func TestP9_3NothingHandedInIsChanged(t *testing.T) {
	unchanged := func(what string, b []byte, use func(b []byte)) {
		t.Helper()
		room := roomy(b)
		was := bytes.Clone(room[:cap(room)])
		use(room)
		same(t, what, room[:cap(room)], was)
	}
	for _, c := range someCopies() {
		unchanged("Encode", c.b, func(b []byte) { Encode(Page{Gen: 1, Body: b}) })
		unchanged("Decode", c.b, func(b []byte) { Decode(b) })
		unchanged("Same", c.b, func(b []byte) { Same(Page{Body: b}, Page{Body: b}) })
		unchanged("Vote, all alike", c.b, func(b []byte) { Vote(b, b, b) })
		unchanged("Vote, the first one", c.b, func(b []byte) { Vote(b, nil, bytesOf(page(9, "q"))) })
		unchanged("Vote, the second one", c.b, func(b []byte) { Vote(nil, b, bytesOf(page(9, "q"))) })
		unchanged("Vote, the third one", c.b, func(b []byte) { Vote(bytesOf(page(9, "q")), nil, b) })
	}
}

func TestP9_3EncodeAndDecodeAreNewMemory(t *testing.T) {
	body := roomy(text(60))
	b, _ := Encode(Page{Gen: 5, Body: body})
	again, _ := Encode(Page{Gen: 5, Body: body})
	want := bytesOf(Page{Gen: 5, Body: text(60)})
	spoil(body)
	same(t, "written, the Body being gone", b, want)
	spoil(b)
	same(t, "written twice, the first one being gone", again, want)
	spoil(body)
	same(t, "the Body, the first one being gone", body, text(60))

	p, _ := Decode(again)
	other, _ := Decode(again)
	spoil(again)
	samePage(t, "read, the bytes being gone", p, Page{Gen: 5, Body: text(60)})
	spoil(p.Body)
	samePage(t, "read twice, the first one being gone", other, Page{Gen: 5, Body: text(60)})
	spoil(again)
	same(t, "the bytes, what was read being gone", again, want)
}

func TestP9_3VoteIsNewMemory(t *testing.T) {
	won := Page{Gen: 5, Body: text(60)}
	odd := bytesOf(page(9, "q"))
	for place := range 3 {
		one := [3][]byte{bytesOf(won), bytesOf(won), bytesOf(won)}
		one[place] = bytes.Clone(odd)
		p, minority, _ := Vote(one[0], one[1], one[2])
		q, others, _ := Vote(one[0], one[1], one[2])
		for _, b := range one {
			spoil(b)
		}
		samePage(t, "the copies being gone", p, won)
		spoil(p.Body)
		minority[0] = 7
		samePage(t, "the first answer being gone", q, won)
		if len(others) != 1 || others[0] != place {
			t.Errorf("the minority is %v with the first answer gone, want %d", others, place)
		}
		for _, b := range one {
			spoil(b)
		}
		votes(t, "once more", one[0], one[1], one[2], verdict{p: won, minority: []int{place}})
	}
}

func TestP9_3CopiesInOneMemory(t *testing.T) {
	won, odd := page(5, "won"), page(9, "odd")
	all := append(append(bytesOf(won), bytesOf(odd)...), bytesOf(won)...)
	n := len(all) / 3
	was := bytes.Clone(all)
	votes(t, "neighbours", all[:n], all[n:2*n], all[2*n:], verdict{p: won, minority: []int{1}})
	same(t, "neighbours", all, was)
}

func TestP9_3NothingIsKept(t *testing.T) {
	p := page(5, "won")
	b, none := bytesOf(p), []byte("bad")
	votes(t, "as it is", b, none, b, verdict{p: p, minority: []int{1}})
	b[0] ^= 1
	if _, _, e := Vote(b, none, b); e == 0 {
		t.Error("a page that was changed in between is still found")
	}
	b[0] ^= 1
	votes(t, "as it was", b, none, b, verdict{p: p, minority: []int{1}})
	body := []byte("xy")
	x, y := Page{Gen: 1, Body: body}, page(1, "xy")
	body[1]++
	if Same(x, y) {
		t.Error("the same, with a Body that was changed in between")
	}
}
