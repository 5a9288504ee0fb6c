package chant

import (
	"slices"
	"sync"

	"canticle/api"
)

// voice is a voice that sings: its notes come over a channel, which it closes at its end.
type voice struct {
	number int
	notes  []api.Note
	heard  chan api.Sung
}

// sing sings all notes.
func (v *voice) sing() {
	for k, n := range v.notes {
		v.heard <- api.Sung{Voice: v.number, Number: k, Note: n}
	}
	close(v.heard)
}

// choir is voices that sing at a time; all are waited for.
type choir struct {
	wait   sync.WaitGroup
	voices []*voice
}

// begin lets a goroutine do what is handed in.
func (c *choir) begin(play func()) {
	c.wait.Add(1)
	go func() {
		defer c.wait.Done()
		play()
	}()
}

// enter lets voices sing.
func (c *choir) enter(voices [][]api.Note) {
	for k, l := range voices {
		v := &voice{number: k, notes: l, heard: make(chan api.Sung)}
		c.voices = append(c.voices, v)
		c.begin(v.sing)
	}
}

// Sing: P31.7.
func Sing(voices [][]api.Note, order []int) ([]api.Sung, api.Errno) {
	if tooMany(voices) || len(order) > api.MaxNotes {
		return nil, api.ErrLong
	}
	var c choir
	c.enter(voices)
	var out []api.Sung
	// take takes a note of a voice, if there is one.
	take := func(v int) bool {
		if v < 0 || v >= len(c.voices) {
			return false
		}
		s, ok := <-c.voices[v].heard
		if ok {
			out = append(out, s)
		}
		return ok
	}
	for _, v := range order {
		take(v)
	}
	for left := true; left; {
		left = false
		for v := range c.voices {
			if take(v) {
				left = true
			}
		}
	}
	c.wait.Wait()
	return out, api.OK
}

// pair hears two at a time, as they come, and hands on what is heard.
type pair struct {
	a, b, heard chan api.Sung
}

func (p *pair) listen() {
	a, b := p.a, p.b
	for a != nil || b != nil {
		select {
		case s, ok := <-a:
			if !ok {
				a = nil
				continue
			}
			p.heard <- s
		case s, ok := <-b:
			if !ok {
				b = nil
				continue
			}
			p.heard <- s
		}
	}
	close(p.heard)
}

// Free: P31.7.
func Free(voices [][]api.Note) ([]api.Sung, api.Errno) {
	if tooMany(voices) {
		return nil, api.ErrLong
	}
	var c choir
	c.enter(voices)
	var all chan api.Sung
	for _, v := range c.voices {
		if all == nil {
			all = v.heard
			continue
		}
		p := &pair{a: all, b: v.heard, heard: make(chan api.Sung)}
		c.begin(p.listen)
		all = p.heard
	}
	var out []api.Sung
	if all != nil {
		for s := range all {
			out = append(out, s)
		}
	}
	c.wait.Wait()
	slices.SortFunc(out, inOrder)
	return out, api.OK
}
