package cni_test

import (
	"bytes"
	"fmt"
	"math"
	"slices"
	"testing"

	"metronome/api"
	"metronome/cni"
)

// must is the interface that a call answers which is to be right.
func must(t *testing.T) func(api.Cni, api.Errno) api.Cni {
	return func(c api.Cni, e api.Errno) api.Cni {
		t.Helper()
		if e != api.OK {
			t.Fatalf("error %d", e)
		}
		if e := cni.Check(c); e != api.OK {
			t.Fatalf("may not be: %+v", c)
		}
		return c
	}
}

// The chapter's example

func TestExample(t *testing.T) {
	do := must(t)
	c := do(cni.New(1, 4))
	c = do(cni.Write(c, []byte{5, 6}))
	wantSend(t, c, 3, []byte{5, 6, 0}, api.OK)
}

// P12.4: the last one stays

func TestTheLastOneStays(t *testing.T) {
	do := must(t)
	for n := minNodes; n <= maxNodes; n++ {
		for slot := range n {
			c := do(cni.Deliver(do(cni.New(0, n)), slot, []byte{1, 2}))
			for rounds := range maxAge + 3 {
				want := api.Message{Data: []byte{1, 2}, Age: min(rounds, maxAge)}
				if fmt.Sprint(c.In[slot]) != fmt.Sprint(want) {
					t.Fatalf("behind %d rounds: %+v", rounds, c.In[slot])
				}
				for other, m := range c.In {
					if other != slot && (len(m.Data) != 0 || m.Age != maxAge) {
						t.Fatalf("behind %d rounds, in %d: %+v", rounds, other, m)
					}
				}
				c = do(cni.Round(c))
			}
			c = do(cni.Deliver(c, slot, []byte{3}))
			if fmt.Sprint(c.In[slot]) != fmt.Sprint(api.Message{Data: []byte{3}}) {
				t.Errorf("behind the next one: %+v", c.In[slot])
			}
		}
	}
}

func TestOfSeveralInARoundTheLastOneStays(t *testing.T) {
	do := must(t)
	c := do(cni.New(3, 4))
	c = do(cni.Deliver(c, 1, bytesFrom(1, maxData)))
	c = do(cni.Deliver(c, 2, []byte{7}))
	c = do(cni.Deliver(c, 1, []byte{9}))
	c = do(cni.Deliver(c, 2, nil))
	wantRound(t, c, api.Cni{Id: 3, In: []api.Message{{Age: 255}, {Data: []byte{9}, Age: 1}, {Age: 1}, {Age: 255}}, Life: 3, Want: -1}, api.OK)
	wantFresh(t, c, 0, 1, 2)
}

// TestHostAndControllerTouchOnlyTheirOwn asks that what the host does changes nothing that came, and the other way round.
func TestHostAndControllerTouchOnlyTheirOwn(t *testing.T) {
	do := must(t)
	for _, c := range cnis() {
		for _, d := range []api.Cni{do(cni.Write(c, []byte{77})), do(cni.Beat(c)), do(cni.Ask(c, 3))} {
			if fmt.Sprint(d.In) != fmt.Sprint(c.In) || d.Id != c.Id {
				t.Errorf("the host made of %+v %+v", c, d)
			}
		}
		for _, d := range []api.Cni{do(cni.Deliver(c, 1, []byte{77})), do(cni.Round(c))} {
			if !bytes.Equal(d.Out, c.Out) || d.Want != c.Want || d.Id != c.Id {
				t.Errorf("the controller made of %+v %+v", c, d)
			}
		}
	}
}

// P12.5: no sign, no data

func TestNoSignNoData(t *testing.T) {
	do := must(t)
	for _, first := range cnis() {
		c := do(cni.Beat(first))
		for rounds := range maxLife + 3 {
			if is := cni.Alive(c); is != (rounds < maxLife) {
				t.Fatalf("Alive behind %d rounds: %t", rounds, is)
			}
			c = do(cni.Write(c, []byte{byte(rounds), 6, 7}))
			want := []byte{byte(rounds), 6, 7, 0}
			if rounds >= maxLife {
				want = []byte{0, 0, 0, 0}
			}
			wantSend(t, c, 4, want, api.OK)
			// What it asks for and what came is no sign of life.
			c = do(cni.Ask(c, rounds%4))
			c = do(cni.Deliver(c, c.Id, []byte{1}))
			c = do(cni.Round(c))
		}
		c = do(cni.Beat(c))
		wantSend(t, c, 4, []byte{6, 6, 7, 0}, api.OK)
	}
}

func TestABeatEachRoundKeepsAlive(t *testing.T) {
	do := must(t)
	c := do(cni.Write(do(cni.New(0, 4)), []byte{1}))
	for each := 1; each <= maxLife+1; each++ {
		for round := range 3 * each {
			if round%each == 0 {
				c = do(cni.Beat(c))
			}
			if is := cni.Alive(c); is != (round%each < maxLife) {
				t.Errorf("a Beat each %d rounds, Alive in %d: %t", each, round, is)
			}
			c = do(cni.Round(c))
		}
	}
}

// P12.6, and all calls one behind the other

// story is what was done to an interface, from which all follows that it should have.
type story struct {
	id, n  int
	round  int
	wrote  []byte
	beat   int // the round of the last sign
	wanted int
	came   map[int][]byte
	when   map[int]int
}

func (s *story) cni() api.Cni {
	c := api.Cni{Id: s.id, Out: s.wrote, Life: max(0, maxLife-(s.round-s.beat)), Want: s.wanted}
	for slot := range s.n {
		m := api.Message{Age: maxAge}
		if data, is := s.came[slot]; is {
			m = api.Message{Data: data, Age: min(maxAge, s.round-s.when[slot])}
		}
		c.In = append(c.In, m)
	}
	return c
}

// do is the next step of a story, as a number has it: four of ten are rounds' ends, and some are refused.
func (s *story) do(c api.Cni, number int) (api.Cni, api.Errno) {
	kind, arg := number%10, number/10
	data := bytesFrom(byte(arg), arg%10)
	switch kind {
	case 0:
		if len(data) <= maxData {
			s.wrote = data
		}
		return cni.Write(c, data)
	case 1:
		s.beat = s.round
		return cni.Beat(c)
	case 2:
		if mode := arg%7 - 2; mode >= -1 && mode < maxModes {
			s.wanted = mode
		}
		return cni.Ask(c, arg%7-2)
	case 3, 4, 5:
		slot := arg%11 - 1
		if slot >= 0 && slot < s.n && len(data) <= maxData {
			s.came[slot], s.when[slot] = data, s.round
		}
		return cni.Deliver(c, slot, data)
	}
	s.round++
	return cni.Round(c)
}

func TestStories(t *testing.T) {
	for number := range 60 {
		s := &story{id: number % 4, n: minNodes + number%5, wanted: -1, came: map[int][]byte{}, when: map[int]int{}}
		c, e := cni.New(s.id, s.n)
		if e != api.OK {
			t.Fatal(e)
		}
		seed := uint32(number)
		for range 800 {
			seed = seed*1664525 + 1013904223
			d, e := s.do(c, int(seed>>8))
			if e == api.OK {
				c = d
			}
			if cni.Check(c) != api.OK || text(c) != text(s.cni()) {
				t.Fatalf("story %d: %+v; want %+v", number, c, s.cni())
			}
			wantStory(t, s, c, int(seed>>24))
		}
	}
}

// wantStory asks for what is read and sent in a story.
func wantStory(t *testing.T, s *story, c api.Cni, number int) {
	t.Helper()
	long := number % (maxData + 1)
	want := make([]byte, long)
	if s.round-s.beat < maxLife {
		copy(want, s.wrote)
	}
	wantSend(t, c, long, want, api.OK)
	var slots []int
	for slot := range s.n {
		if when, is := s.when[slot]; is && s.round-when <= number && s.round-when < maxAge {
			slots = append(slots, slot)
		}
	}
	wantFresh(t, c, number, slots...)
}

// P12.6: it may be

func TestWhatComesOfOneThatMayBeMayBe(t *testing.T) {
	do := must(t)
	for _, c := range cnis() {
		do(cni.Beat(c))
		do(cni.Round(c))
		for n := range maxData + 1 {
			do(cni.Write(c, make([]byte, n)))
			for slot := range c.In {
				do(cni.Deliver(c, slot, make([]byte, n)))
			}
		}
		for mode := -1; mode < maxModes; mode++ {
			do(cni.Ask(c, mode))
		}
	}
}

// R3: nothing is changed, kept or shared

const mark = 0xee

// roomy are bytes with marks in the room behind them.
func roomy(data []byte) []byte {
	b := append(slices.Clone(data), bytes.Repeat([]byte{mark}, 9)...)
	return b[:len(data)]
}

// roomyCni is an interface all whose lists have room behind them.
func roomyCni(c api.Cni) api.Cni {
	c.Out = roomy(c.Out)
	in := slices.Clone(c.In)
	for range 9 {
		in = append(in, api.Message{Data: roomy([]byte{mark}), Age: mark})
	}
	for i := range c.In {
		in[i].Data = roomy(in[i].Data)
	}
	c.In = in[:len(c.In)]
	return c
}

// whole is all that an interface holds, with the room behind its lists.
func whole(c api.Cni) string {
	c = api.Cni{Id: c.Id, Out: c.Out[:cap(c.Out)], In: slices.Clone(c.In[:cap(c.In)]), Life: c.Life, Want: c.Want}
	for i := range c.In {
		c.In[i].Data = c.In[i].Data[:cap(c.In[i].Data)]
	}
	return text(c)
}

// spoil changes all that an interface holds, and the room behind it.
func spoil(c api.Cni) {
	for i := range c.Out[:cap(c.Out)] {
		c.Out[:cap(c.Out)][i] ^= 0x55
	}
	in := c.In[:cap(c.In)]
	for i := range in {
		data := in[i].Data[:cap(in[i].Data)]
		for k := range data {
			data[k] ^= 0x55
		}
		in[i] = api.Message{Data: []byte{mark}, Age: 77}
	}
}

// call is a call that answers an interface of another one and of data.
type call struct {
	what string
	do   func(api.Cni, []byte) (api.Cni, api.Errno)
}

func calls() []call {
	return []call{
		{"New", func(c api.Cni, _ []byte) (api.Cni, api.Errno) { return cni.New(c.Id, len(c.In)) }},
		{"Write", cni.Write},
		{"Beat", func(c api.Cni, _ []byte) (api.Cni, api.Errno) { return cni.Beat(c) }},
		{"Ask", func(c api.Cni, _ []byte) (api.Cni, api.Errno) { return cni.Ask(c, 2) }},
		{"Deliver first", func(c api.Cni, data []byte) (api.Cni, api.Errno) { return cni.Deliver(c, 0, data) }},
		{"Deliver last", func(c api.Cni, data []byte) (api.Cni, api.Errno) { return cni.Deliver(c, len(c.In)-1, data) }},
		{"Round", func(c api.Cni, _ []byte) (api.Cni, api.Errno) { return cni.Round(c) }},
	}
}

func TestNoCallChangesWhatItIsHanded(t *testing.T) {
	all := cnis()
	for _, x := range noCnis() {
		all = append(all, x.c)
	}
	for _, c := range all {
		for _, data := range [][]byte{{}, {1, 2}, bytesFrom(3, maxData), bytesFrom(3, maxData+1)} {
			a, b := roomyCni(c), roomy(data)
			wasA, wasB := whole(a), slices.Clone(b[:cap(b)])
			for _, x := range calls() {
				x.do(a, b)
			}
			cni.Check(a)
			cni.Alive(a)
			cni.Same(a, a)
			for long := range maxData + 2 {
				cni.Send(a, long)
			}
			for range cni.Fresh(a, maxAge) {
			}
			if whole(a) != wasA || !bytes.Equal(b[:cap(b)], wasB) {
				t.Fatalf("%s, %v became %s, %v", wasA, wasB, whole(a), b[:cap(b)])
			}
		}
	}
}

func TestNoAnswerSharesWithWhatIsHandedIn(t *testing.T) {
	for _, c := range cnis() {
		for _, x := range calls() {
			a, data := roomyCni(c), roomy([]byte{1, 2, 3})
			got, e := x.do(a, data)
			if e != api.OK {
				t.Fatalf("%s: %d", x.what, e)
			}
			was := text(got)
			spoil(a)
			for i := range data[:cap(data)] {
				data[:cap(data)][i] ^= 0x55
			}
			if text(got) != was {
				t.Fatalf("%s: when all that was handed in changed, %s became %s", x.what, was, text(got))
			}
			a, data = roomyCni(c), roomy([]byte{1, 2, 3})
			wasA, wasData := whole(a), slices.Clone(data[:cap(data)])
			got, _ = x.do(a, data)
			spoil(got)
			if whole(a) != wasA || !bytes.Equal(data[:cap(data)], wasData) {
				t.Fatalf("%s: when the answer changed, %s, %v became %s, %v", x.what, wasA, wasData, whole(a), data)
			}
		}
	}
}

func TestTwoAnswersShareNothing(t *testing.T) {
	for _, c := range cnis() {
		for _, x := range calls() {
			for _, data := range [][]byte{nil, {}, {1, 2, 3}} {
				a, _ := x.do(c, data)
				b, _ := x.do(c, data)
				was := text(b)
				spoil(a)
				if text(b) != was {
					t.Fatalf("%s: when one answer changed, the other one: %s became %s", x.what, was, text(b))
				}
			}
		}
		for long := range maxData + 1 {
			a, _ := cni.Send(c, long)
			b, _ := cni.Send(c, long)
			was := slices.Clone(b)
			for i := range a[:cap(a)] {
				a[:cap(a)][i] ^= 0x55
			}
			if !bytes.Equal(b, was) {
				t.Fatalf("Send: when one answer changed, the other one: %v became %v", was, b)
			}
		}
	}
}

// TestNoTwoListsOfAnAnswerShare changes one list of an answer, and the room behind it, and looks at all others.
func TestNoTwoListsOfAnAnswerShare(t *testing.T) {
	one := bytesFrom(1, maxData)
	c := api.Cni{Out: one, In: slices.Repeat([]api.Message{{Data: one, Age: 3}}, 5), Life: 2, Want: -1}
	for _, x := range calls() {
		got, e := x.do(c, one)
		if e != api.OK {
			t.Fatalf("%s: %d", x.what, e)
		}
		was := own(got)
		out := got.Out[:cap(got.Out)]
		for i := range out {
			out[i] ^= 0x55
		}
		if fmt.Sprint(got.In) != fmt.Sprint(was.In) {
			t.Errorf("%s: with Out %+v became %+v", x.what, was.In, got.In)
		}
		got, _ = x.do(c, one)
		for slot := range got.In {
			data := got.In[slot].Data[:cap(got.In[slot].Data)]
			for i := range data {
				data[i] ^= 0x55
			}
			rest := with(got, func(c *api.Cni) { c.In[slot].Data = was.In[slot].Data })
			if text(rest) != text(was) {
				t.Errorf("%s: with the Data in %d %+v became %+v", x.what, slot, was, rest)
			}
			for i := range data {
				data[i] ^= 0x55
			}
		}
	}
}

func TestSendSharesNothing(t *testing.T) {
	for _, c := range cnis() {
		for long := range maxData + 1 {
			a := roomyCni(c)
			was := whole(a)
			got, _ := cni.Send(a, long)
			sent := slices.Clone(got)
			for i := range got[:cap(got)] {
				got[:cap(got)][i] ^= 0x55
			}
			if whole(a) != was {
				t.Fatalf("when what is sent changed, %s became %s", was, whole(a))
			}
			got, _ = cni.Send(a, long)
			spoil(a)
			if !bytes.Equal(got, sent) {
				t.Fatalf("when the interface changed, %v became %v", sent, got)
			}
		}
	}
}

func TestFreshTellsWhatWasThereWhenItWasAsked(t *testing.T) {
	changes := []struct {
		what string
		do   func(api.Cni)
	}{
		{"a message came", func(c api.Cni) { c.In[1].Age = 0 }},
		{"all messages came", func(c api.Cni) { clear(c.In) }},
		{"messages grew old", func(c api.Cni) { c.In[2].Age, c.In[6].Age = 255, 255 }},
		{"an Age that may not be", func(c api.Cni) { c.In[7].Age = 256 }},
		{"Data that may not be", func(c api.Cni) { c.In[0].Data = make([]byte, 9) }},
	}
	for _, x := range changes {
		c := used(0, 8)
		seq := cni.Fresh(c, 1)
		x.do(c)
		if l := slices.Collect(seq); !slices.Equal(l, []int{0, 2, 6}) {
			t.Errorf("%s behind Fresh: %v", x.what, l)
		}
		c = used(0, 8)
		var l []int
		for slot := range cni.Fresh(c, 1) {
			l = append(l, slot)
			x.do(c)
		}
		if !slices.Equal(l, []int{0, 2, 6}) {
			t.Errorf("%s while Fresh tells: %v", x.what, l)
		}
	}
	c := used(0, 8)
	c.In[3].Age = 256
	seq := cni.Fresh(c, 1)
	c.In[3].Age = 0
	if l := slices.Collect(seq); len(l) != 0 {
		t.Errorf("Fresh of one that may be only later: %v", l)
	}
}

// R4: the same calls answer the same

func TestSameCallsAnswerTheSame(t *testing.T) {
	for _, c := range cnis() {
		for _, x := range calls() {
			a, e := x.do(c, []byte{4, 5})
			b, f := x.do(roomyCni(c), roomy([]byte{4, 5}))
			if e != f || !cni.Same(a, b) || text(a) != text(b) {
				t.Errorf("%s of twice %+v: %+v, %d; %+v, %d", x.what, c, a, e, b, f)
			}
		}
	}
}

// P1: every call ends and none panics

func TestNoCallPanics(t *testing.T) {
	numbers := []int{math.MinInt, -2, -1, 0, 1, 3, 4, 5, 8, 9, 255, 256, math.MaxInt}
	var all []api.Cni
	for _, a := range numbers {
		for _, b := range numbers {
			all = append(all, api.Cni{Id: a, Life: b, Want: b, In: make([]api.Message, 4)}, api.Cni{Id: 1, Life: a, Want: b, In: []api.Message{{}, {Age: a}, {Age: b}, {}}})
			if c, e := cni.New(a, b); e != api.OK && text(c) != text(api.Cni{}) {
				t.Errorf("New(%d, %d): %+v, %d", a, b, c, e)
			}
		}
	}
	all = append(all, api.Cni{}, api.Cni{In: make([]api.Message, 1<<16)}, api.Cni{Out: make([]byte, 1<<16), In: make([]api.Message, 4)})
	for _, c := range all {
		for _, n := range numbers {
			cni.Ask(c, n)
			cni.Send(c, n)
			cni.Deliver(c, n, nil)
			cni.Deliver(c, n, make([]byte, 1<<16))
			for range cni.Fresh(c, n) {
			}
		}
		for _, data := range [][]byte{nil, {}, make([]byte, 1<<16)} {
			cni.Write(c, data)
		}
		cni.Check(c)
		cni.Beat(c)
		cni.Round(c)
		cni.Alive(c)
		cni.Same(c, api.Cni{})
		cni.Same(c, c)
	}
}
