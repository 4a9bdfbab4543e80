package disk

import (
	"bytes"
	"fmt"
	"math/rand"
	"slices"
	"strings"
	"testing"

	"almanac/api"
)

// cell is one byte of a file of a model.
type cell struct {
	c       byte
	durable bool
}

// model is a disk as the chapter tells it, byte by byte, without this package.
type model struct {
	files map[string][]cell
	quota int
	fuses []int // none, or the one that there is
	on    bool
}

// cond is an error, and whether it applies.
type cond struct {
	applies bool
	err     api.Errno
}

// first is the first error of those that apply, in their order.
func first(conds ...cond) api.Errno {
	for _, c := range conds {
		if c.applies {
			return c.err
		}
	}
	return api.OK
}

// isName tells whether s is a file name.
func isName(s string) bool {
	return len(s) > 0 && len(s) <= 32 && strings.Trim(s, "abcdefghijklmnopqrstuvwxyz0123456789-.") == ""
}

// has tells whether there is a file of that name.
func (m *model) has(name string) bool {
	_, ok := m.files[name]
	return ok
}

// used is how many bytes all files have.
func (m *model) used() int {
	n := 0
	for _, f := range m.files {
		n += len(f)
	}
	return n
}

// sorted are the names of the files.
func (m *model) sorted() []string {
	var names []string
	for name := range m.files {
		names = append(names, name)
	}
	slices.Sort(names)
	return names
}

// step carries out a step, if no error applies.
func (m *model) step(err api.Errno, do func()) api.Errno {
	if err != api.OK {
		return err
	}
	if len(m.fuses) > 0 && m.fuses[0] == 0 {
		m.fuses, m.on = nil, false
		return api.ErrOff
	}
	if len(m.fuses) > 0 {
		m.fuses[0]--
	}
	do()
	return api.OK
}

// shared are the conditions that all calls with a name share.
func (m *model) shared(name string) []cond {
	return []cond{{!m.on, api.ErrOff}, {!isName(name), api.ErrArg}}
}

func (m *model) create(name string) api.Errno {
	return m.step(first(append(m.shared(name), cond{m.has(name), api.ErrThere}, cond{len(m.files) >= 512, api.ErrFull})...), func() { m.files[name] = []cell{} })
}

func (m *model) append(name string, b []byte) api.Errno {
	return m.step(first(append(m.shared(name), cond{!m.has(name), api.ErrNone}, cond{m.used()+len(b) > m.quota, api.ErrFull})...), func() {
		for _, c := range b {
			m.files[name] = append(m.files[name], cell{c, false})
		}
	})
}

func (m *model) sync(name string) api.Errno {
	return m.step(first(append(m.shared(name), cond{!m.has(name), api.ErrNone})...), func() {
		for i := range m.files[name] {
			m.files[name][i].durable = true
		}
	})
}

func (m *model) rename(name, to string) api.Errno {
	return m.step(first(append(m.shared(name), cond{!isName(to), api.ErrArg}, cond{!m.has(name), api.ErrNone})...), func() {
		if name != to {
			m.files[to] = m.files[name]
			delete(m.files, name)
		}
	})
}

func (m *model) truncate(name string, size int) api.Errno {
	return m.step(first(append(m.shared(name), cond{!m.has(name), api.ErrNone}, cond{size < 0 || size > len(m.files[name]), api.ErrArg})...), func() {
		m.files[name] = slices.Clone(m.files[name][:size])
	})
}

func (m *model) remove(name string) api.Errno {
	return m.step(first(append(m.shared(name), cond{!m.has(name), api.ErrNone})...), func() { delete(m.files, name) })
}

func (m *model) setQuota(n int) api.Errno {
	if n < 0 || n > 1<<22 {
		return api.ErrArg
	}
	m.quota = n
	return api.OK
}

func (m *model) setFuse(n int) api.Errno {
	switch {
	case !m.on:
		return api.ErrOff
	case n < -1:
		return api.ErrArg
	case n == -1:
		m.fuses = nil
	default:
		m.fuses = []int{n}
	}
	return api.OK
}

func (m *model) crash(picks []uint16, turns []byte) api.Errno {
	m.on, m.fuses = true, nil
	k := 0
	for _, name := range m.sorted() {
		var durable, loose []cell
		for _, c := range m.files[name] {
			if c.durable {
				durable = append(durable, c)
			} else {
				loose = append(loose, c)
			}
		}
		if len(loose) == 0 {
			continue
		}
		stay := 0
		if k < len(picks) {
			stay = int(picks[k]) % (len(loose) + 1)
		}
		if stay > 0 && k < len(turns) {
			loose[stay-1].c ^= turns[k]
		}
		k++
		m.files[name] = append(durable, loose[:stay]...)
		for i := range m.files[name] {
			m.files[name][i].durable = true
		}
	}
	return api.OK
}

// copied is a model of its own.
func (m *model) copied() *model {
	c := &model{files: map[string][]cell{}, quota: m.quota, fuses: slices.Clone(m.fuses), on: m.on}
	for name, f := range m.files {
		c.files[name] = slices.Clone(f)
	}
	return c
}

// agrees fails unless the disk tells what the model does.
func agrees(t *testing.T, d *Disk, m *model, after string) {
	t.Helper()
	if d.On() != m.on {
		t.Fatalf("%s: is on: %v", after, d.On())
	}
	names, used := m.sorted(), m.used()
	if !m.on {
		names, used = nil, 0
	}
	if !slices.Equal(d.Names(), names) || d.Used() != used {
		t.Fatalf("%s: has %v, %d bytes, not %v, %d", after, d.Names(), d.Used(), names, used)
	}
	for _, name := range names {
		var want []byte
		safe := 0
		for _, c := range m.files[name] {
			want = append(want, c.c)
			if c.durable {
				safe++
			}
		}
		b, err := d.Read(name)
		n, err2 := d.Safe(name)
		if err != api.OK || err2 != api.OK || !bytes.Equal(b, want) || n != safe {
			t.Fatalf("%s: %s has % x (%d), %d durable (%d), not % x, %d", after, name, b, err, n, err2, want, safe)
		}
	}
}

// both makes one random call of the disk and of the model, and tells which, and what each returned.
func both(r *rand.Rand, d *Disk, m *model) (call string, got, want api.Errno) {
	all := []string{"a", "b", "c", "d-1", "d-", "d.", "?", ""}
	name, to := all[r.Intn(len(all))], all[r.Intn(len(all))]
	if r.Intn(2) == 0 {
		name = all[r.Intn(3)] // so that most calls have a file to work on
	}
	b := make([]byte, r.Intn(7))
	r.Read(b)
	picks, turns := make([]uint16, r.Intn(5)), make([]byte, r.Intn(5))
	for i := range picks {
		picks[i] = uint16(r.Intn(1 << 16))
	}
	r.Read(turns)
	n := r.Intn(14) - 2
	switch k := r.Intn(32); {
	case k < 4:
		return fmt.Sprintf("Create(%q)", name), d.Create(name), m.create(name)
	case k < 14:
		return fmt.Sprintf("Append(%q, % x)", name, b), d.Append(name, b), m.append(name, b)
	case k < 18:
		return fmt.Sprintf("Sync(%q)", name), d.Sync(name), m.sync(name)
	case k < 20:
		return fmt.Sprintf("Rename(%q, %q)", name, to), d.Rename(name, to), m.rename(name, to)
	case k < 23:
		return fmt.Sprintf("Truncate(%q, %d)", name, n), d.Truncate(name, n), m.truncate(name, n)
	case k < 25:
		return fmt.Sprintf("Remove(%q)", name), d.Remove(name), m.remove(name)
	case k < 27:
		return fmt.Sprintf("Quota(%d)", 5*n), d.Quota(5 * n), m.setQuota(5 * n)
	case k < 29:
		return fmt.Sprintf("Fuse(%d)", n), d.Fuse(n), m.setFuse(n)
	case k < 31:
		return fmt.Sprintf("Crash(%v, %v)", picks, turns), d.Crash(picks, turns), m.crash(picks, turns)
	default:
		_, err := d.Read(name)
		_, err2 := d.Safe(name)
		if err2 != err {
			err = -1
		}
		return fmt.Sprintf("Read(%q), Safe", name), err, first(append(m.shared(name), cond{!m.has(name), api.ErrNone})...)
	}
}

// P8.1 to P8.5: random calls, of a disk and at times of a copy of it, against the model.
func TestModel(t *testing.T) {
	r := rand.New(rand.NewSource(8))
	for range 300 {
		quota := r.Intn(60)
		d, m := made(t, quota), &model{files: map[string][]cell{}, quota: quota, on: true}
		var calls []string
		for range 200 {
			if r.Intn(40) == 0 {
				old, oldModel := d, m.copied()
				d = d.Copy()
				agrees(t, d, m, "Copy")
				call, _, _ := both(r, old, oldModel) // what is done to the original doesn't reach the copy
				agrees(t, old, oldModel, call)
				agrees(t, d, m, "the copy, after "+call)
			}
			call, got, want := both(r, d, m)
			calls = append(calls, call)
			if got != want {
				t.Fatalf("%s is %d, not %d", strings.Join(calls, ", "), got, want)
			}
			agrees(t, d, m, strings.Join(calls, ", "))
		}
	}
}

// lit is a copy of d with the power on, so that all of it can be told. Only a Crash turns the power on, which would lose bytes: so the copy is lit from within.
func lit(d *Disk) *Disk {
	c := d.Copy()
	c.kept.off = false
	return c
}

// P8.7: a call that returns an error changes nothing but the power and the fuse; a Crash changes no file if all bytes are durable.
func TestNothingChanges(t *testing.T) {
	r := rand.New(rand.NewSource(87))
	refused := 0
	for range 300 {
		quota := r.Intn(60)
		d, m := made(t, quota), &model{files: map[string][]cell{}, quota: quota, on: true}
		for range 100 {
			before := shown(t, lit(d))
			call, got, _ := both(r, d, m)
			if got != api.OK {
				refused++
				shows(t, lit(d), before)
			}
			if strings.HasPrefix(call, "Crash") {
				before = shown(t, d)
				well(t, d.Crash([]uint16{3, 2, 1}, []byte{255, 255, 255}))
				shows(t, d, before)
			}
		}
	}
	if refused < 1000 {
		t.Errorf("only %d calls were refused", refused)
	}
}

// P8.6: after a Crash each file starts with what was durable, and then with at most what was there, all but the last of it unchanged.
func TestDurableSurvives(t *testing.T) {
	r := rand.New(rand.NewSource(86))
	for range 300 {
		d, m := made(t, 60), &model{files: map[string][]cell{}, quota: 60, on: true}
		for range r.Intn(60) {
			both(r, d, m)
		}
		before := lit(d)
		picks, turns := make([]uint16, 9), make([]byte, 9)
		for i := range picks {
			picks[i] = uint16(r.Intn(1 << 16))
		}
		r.Read(turns)
		well(t, d.Crash(picks, turns))
		if !slices.Equal(d.Names(), before.Names()) {
			t.Errorf("the files became %v, not %v", d.Names(), before.Names())
		}
		for _, name := range before.Names() {
			old, _ := before.Read(name)
			safe, _ := before.Safe(name)
			b, _ := d.Read(name)
			n, _ := d.Safe(name)
			same := max(safe, len(b)-1)
			if len(b) < safe || len(b) > len(old) || n != len(b) || !bytes.Equal(b[:min(same, len(b))], old[:min(same, len(b))]) {
				t.Errorf("%s became % x, %d durable, of % x, %d durable", name, b, n, old, safe)
			}
		}
	}
}
