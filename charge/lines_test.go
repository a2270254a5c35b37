package charge_test

import (
	"math"
	"math/rand"
	"slices"
	"testing"

	"coulomb/api"
	"coulomb/charge"
)

// lineModel is a line as the chapter describes it: all notes that it was ever told, and how many of them are known to have arrived.
type lineModel struct {
	sent        []api.Note
	done, taken int
	owes        bool
}

// waiting is how many notes wait.
func (l *lineModel) waiting() int { return len(l.sent) - l.done }

// send is Send.
func (l *lineModel) send(n api.Note) api.Errno {
	if l.waiting() == mostNotes {
		return api.ErrFull
	}
	l.sent = append(l.sent, n)
	return api.OK
}

// poll is Poll.
func (l *lineModel) poll() (api.Packet, bool) {
	p := api.Packet{Ack: l.taken}
	if l.waiting() > 0 {
		p.Has, p.Number, p.Note = true, l.done+1, l.sent[l.done]
	} else if !l.owes {
		return api.Packet{}, false
	}
	l.owes = false
	return p, true
}

// receive is Receive.
func (l *lineModel) receive(p api.Packet) (api.Note, bool) {
	if p.Ack > l.done && p.Ack <= len(l.sent) {
		l.done = p.Ack
	}
	l.owes = l.owes || p.Has
	if !p.Has || p.Number != l.taken+1 {
		return api.Note{}, false
	}
	l.taken++
	return p.Note, true
}

// clone is a copy of the model.
func (l lineModel) clone() lineModel {
	l.sent = slices.Clone(l.sent)
	return l
}

// twoLines are a line and its model, to which the same is done.
type twoLines struct {
	t *testing.T
	l *charge.Line
	m *lineModel
}

func newLines(t *testing.T) twoLines { return twoLines{t, charge.NewLine(), &lineModel{}} }

func (x twoLines) send(n api.Note) {
	x.t.Helper()
	same(x.t, x.l.Send(n), x.m.send(n), "Send", n)
	x.check()
}

func (x twoLines) poll() poll {
	x.t.Helper()
	p := pollOf(x.l.Poll())
	same(x.t, p, pollOf(x.m.poll()), "Poll")
	x.check()
	return p
}

func (x twoLines) receive(p api.Packet) got {
	x.t.Helper()
	n := gotOf(x.l.Receive(p))
	same(x.t, n, gotOf(x.m.receive(p)), "Receive", p)
	x.check()
	return n
}

func (x twoLines) check() {
	x.t.Helper()
	same(x.t, x.l.Waiting(), x.m.waiting(), "Waiting")
}

// note is a note that differs from others.
func note(i int) api.Note {
	return api.Note{Kind: api.NoteRecord, Session: i, A: int64(i), B: -1, C: 5}
}

// P9.3: the chapter's example.
func TestExampleOfLines(t *testing.T) {
	x, y := newLines(t), newLines(t)
	same(t, x.poll(), poll{}, "Poll of a new line")
	x.send(note(7))
	p := api.Packet{Has: true, Number: 1, Note: note(7)}
	same(t, x.poll(), poll{p, true}, "Poll")
	same(t, y.receive(p), got{note(7), true}, "Receive")
	same(t, y.receive(p), got{}, "Receive once more")
	same(t, y.poll(), poll{api.Packet{Ack: 1}, true}, "Poll at the other end")
	same(t, y.poll(), poll{}, "Poll at the other end, once more")
	same(t, x.l.Waiting(), 1, "Waiting before the answer")
	same(t, x.poll(), poll{p, true}, "Poll before the answer")
	same(t, x.receive(api.Packet{Ack: 1}), got{}, "Receive of the answer")
	same(t, x.l.Waiting(), 0, "Waiting behind the answer")
	same(t, x.poll(), poll{}, "Poll behind the answer")
}

// P9.3: notes wait in their order, at most 64 of them.
func TestFullLine(t *testing.T) {
	x := newLines(t)
	for i := range mostNotes {
		same(t, x.l.Waiting(), i, "Waiting")
		x.send(note(i))
	}
	for range 3 {
		same(t, x.l.Send(note(99)), api.ErrFull, "Send to a line that is full")
		same(t, x.l.Waiting(), mostNotes, "Waiting")
	}
	same(t, x.poll(), poll{api.Packet{Has: true, Number: 1, Note: note(0)}, true}, "Poll")
	for i := range mostNotes {
		x.receive(api.Packet{Ack: i + 1})
		same(t, x.l.Waiting(), mostNotes-1, "Waiting")
		same(t, x.poll(), poll{api.Packet{Has: true, Number: i + 2, Note: note(i + 1)}, true}, "Poll")
		x.send(note(i + mostNotes))
		same(t, x.l.Send(note(99)), api.ErrFull, "Send to a line that is full again")
	}
	x.receive(api.Packet{Ack: 2 * mostNotes})
	same(t, x.l.Waiting(), 0, "Waiting")
	x.send(note(500))
	same(t, x.poll(), poll{api.Packet{Has: true, Number: 2*mostNotes + 1, Note: note(500)}, true}, "Poll")
}

// P9.3: which answers remove notes.
func TestAnswers(t *testing.T) {
	for ack := range 12 {
		x := newLines(t)
		for i := range 8 {
			x.send(note(i))
		}
		x.receive(api.Packet{Ack: 3})
		x.receive(api.Packet{Ack: ack})
		want := 5
		if ack > 3 && ack <= 8 {
			want = 8 - ack
		}
		same(t, x.l.Waiting(), want, "Waiting behind the answers 3 and", ack)
		for _, wild := range []int{-1, 9, 10, 1 << 32, math.MaxInt, math.MinInt, 0, 8 - want} {
			x.receive(api.Packet{Ack: wild})
			same(t, x.l.Waiting(), want, "Waiting behind a wrong answer", wild)
		}
		same(t, x.poll().has, want > 0, "Poll")
	}
	x := newLines(t)
	x.receive(api.Packet{Ack: 1}) // an answer to what was never sent
	x.send(note(1))
	same(t, x.poll(), poll{api.Packet{Has: true, Number: 1, Note: note(1)}, true}, "Poll")
}

// P9.3: which notes arrive, and when a line owes an answer.
func TestArrivals(t *testing.T) {
	x := newLines(t)
	packet := func(number int) api.Packet { return api.Packet{Has: true, Number: number, Note: note(number)} }
	for _, wild := range []int{0, 2, 3, -1, math.MaxInt, math.MinInt} {
		same(t, x.receive(packet(wild)), got{}, "Receive", wild)
		same(t, x.poll(), poll{api.Packet{}, true}, "Poll behind a note that does not arrive") // an answer of 0
		same(t, x.poll(), poll{}, "Poll")
	}
	for i := 1; i < 200; i++ {
		same(t, x.receive(packet(i)), got{note(i), true}, "Receive", i)
		if i%3 > 0 { // it owes an answer until it polls
			same(t, x.poll(), poll{api.Packet{Ack: i}, true}, "Poll")
			same(t, x.poll(), poll{}, "Poll")
		}
		for _, wild := range []int{i, i - 1, i + 2, 0, -i} {
			same(t, x.receive(packet(wild)), got{}, "Receive", wild)
		}
		same(t, x.receive(api.Packet{Number: i + 1, Note: note(i + 1)}), got{}, "Receive without a note")
		same(t, x.poll(), poll{api.Packet{Ack: i}, true}, "Poll")
	}
	same(t, x.receive(api.Packet{Number: 200, Note: note(5)}), got{}, "Receive without a note")
	same(t, x.poll(), poll{}, "Poll behind a packet without a note")
	same(t, x.receive(api.Packet{Has: true, Number: 200}), got{api.Note{}, true}, "Receive of an empty note")
	x.send(note(1))
	same(t, x.poll(), poll{api.Packet{Has: true, Number: 1, Note: note(1), Ack: 200}, true}, "Poll with a note and an answer")
	x.receive(api.Packet{Ack: 1})
	same(t, x.poll(), poll{}, "Poll: the answer was with the note")
	x.send(note(2))
	x.receive(api.Packet{Has: true, Number: 201, Ack: 2}) // an answer and a note at once
	same(t, x.poll(), poll{api.Packet{Ack: 201}, true}, "Poll")
}

// P9.3: lines to which anything is done.
func TestDrawnLines(t *testing.T) {
	r := chance(3)
	for range 300 {
		x := newLines(t)
		for range 150 {
			switch r.Intn(6) {
			case 0, 1:
				x.send(drawNote(r))
			case 2:
				x.poll()
			case 3:
				x.receive(api.Packet{Has: r.Intn(2) == 0, Number: x.m.taken + r.Intn(4) - 1, Note: drawNote(r), Ack: x.m.done + r.Intn(4) - 1})
			case 4:
				x.receive(api.Packet{Has: r.Intn(4) > 0, Number: drawAny(r, x.m.taken+1, int(pick(r, wildNumbers()...))), Note: drawNote(r), Ack: drawAny(r, x.m.done+r.Intn(x.m.waiting()+2), int(pick(r, wildNumbers()...)))})
			case 5:
				x = x.copied(r)
			}
		}
	}
}

// copied goes on with a copy, when something was done to the original, or with the original, when something was done to the copy.
func (x twoLines) copied(r *rand.Rand) twoLines {
	kept, other := x.l, x.l.Copy()
	if r.Intn(2) == 0 {
		kept, other = other, kept
	}
	other.Receive(api.Packet{Has: true, Number: x.m.taken + 1, Ack: x.m.done + 1})
	other.Send(note(77))
	other.Poll()
	return twoLines{x.t, kept, x.m}
}

// ends are two lines to each other, and what was told and has arrived.
type ends struct {
	lines   [2]*charge.Line
	way     [2][]api.Packet // to the other end
	told    [2][]api.Note
	arrived [2][]api.Note
}

// move does something with what is under way to the other end of a line: kind 0 delivers, 1 drops, and 2 doubles a packet.
func (x *ends) move(line, kind, i int) {
	p := x.way[line][i]
	if kind == 2 {
		x.way[line] = append(x.way[line], p)
		return
	}
	x.way[line] = slices.Delete(slices.Clone(x.way[line]), i, i+1)
	if kind == 0 {
		if n, arrived := x.lines[1-line].Receive(p); arrived {
			x.arrived[1-line] = append(x.arrived[1-line], n)
		}
	}
}

// check checks P9.11.
func (x *ends) check(t *testing.T) {
	t.Helper()
	for i, l := range x.lines {
		told, arrived := x.told[i], x.arrived[1-i]
		if len(arrived) > len(told) || !slices.Equal(arrived, told[:len(arrived)]) {
			t.Fatalf("told: %v; arrived: %v", told, arrived)
		}
		if gone := len(told) - l.Waiting(); gone > len(arrived) {
			t.Fatalf("%d notes do not wait any more, but %d have arrived", gone, len(arrived))
		}
	}
}

// P9.11: lines whose packets are lost, doubled and late.
func TestLinesToEachOther(t *testing.T) {
	r := chance(4)
	for run := range 200 {
		x := ends{lines: [2]*charge.Line{charge.NewLine(), charge.NewLine()}}
		kinds := [][]int{{0}, {0, 0, 1}, {0, 1, 2}, {0, 0, 2}, {0, 1, 1, 1, 2}}[run%5]
		for i := range 400 {
			line := r.Intn(2)
			switch n := len(x.way[line]); {
			case r.Intn(5) == 0:
				if x.lines[line].Send(note(i)) == api.OK {
					x.told[line] = append(x.told[line], note(i))
				}
			case r.Intn(3) == 0:
				if p, has := x.lines[line].Poll(); has {
					x.way[line] = append(x.way[line], p)
				}
			case n > 0:
				x.move(line, pick(r, kinds...), min(r.Intn(n), r.Intn(n)))
			}
			x.check(t)
		}
		x.finish(t)
	}
}

// finish delivers all packets in turn; then all notes have arrived, and nothing is sent any more.
func (x *ends) finish(t *testing.T) {
	t.Helper()
	for range 4 * mostNotes {
		for i, l := range x.lines {
			if p, has := l.Poll(); has {
				x.way[i] = append(x.way[i], p)
			}
			for len(x.way[i]) > 0 {
				x.move(i, 0, 0)
			}
			x.check(t)
		}
	}
	for i, l := range x.lines {
		sameList(t, x.arrived[1-i], x.told[i], "what has arrived in the end")
		same(t, l.Waiting(), 0, "Waiting in the end")
		same(t, pollOf(l.Poll()), poll{}, "Poll in the end")
	}
}

// P9.11: everything that can happen in a few steps.
func TestAllShortWaysOfLines(t *testing.T) {
	var follow func(x ends, steps int)
	follow = func(x ends, steps int) {
		x.check(t)
		if steps == 0 || t.Failed() {
			return
		}
		for line := range 2 {
			c := x.clone()
			if p, has := c.lines[line].Poll(); has {
				c.way[line] = append(c.way[line], p)
				follow(c, steps-1)
			}
			for i := range x.way[line] {
				for kind := range 2 { // what is delivered late or twice was polled twice
					c := x.clone()
					c.move(line, kind, i)
					follow(c, steps-1)
				}
			}
		}
	}
	x := ends{lines: [2]*charge.Line{charge.NewLine(), charge.NewLine()}}
	for i := range 3 {
		x.lines[i%2].Send(note(i))
		x.told[i%2] = append(x.told[i%2], note(i))
	}
	follow(x, 8)
}

// clone is a copy of two lines and all about them.
func (x *ends) clone() ends {
	c := *x
	for i, l := range x.lines {
		c.lines[i], c.way[i], c.told[i], c.arrived[i] = l.Copy(), slices.Clone(x.way[i]), slices.Clone(x.told[i]), slices.Clone(x.arrived[i])
	}
	return c
}
