package schema_test

import (
	"fmt"
	"reflect"
	"runtime"
	"slices"
	"testing"

	"phrasebook/api"
	"phrasebook/schema"
)

// odd returns a definition that is not valid, but has something in every part.
func odd() api.Definition {
	f := func(i int) api.Field {
		return api.Field{
			Name: fmt.Sprint("-", i), Kind: api.Kind(50 + i), Bits: -7, Little: true, Loose: true, Low: 9, High: -9,
			Size: sized(-1, term(0, ""), term(5, "a"), term(6, "a")), Of: "?", Tag: "!", From: "...", Cases: cases("x", "", "x"), Check: 99, Key: -1,
		}
	}
	return api.Definition{Name: "?", Start: "!", Messages: []api.Message{message("", f(1), f(2)), message(""), message("x", f(1))}}
}

// leaves returns all numbers, texts and conditions of a thing, and all its lists, by what they are called.
func leaves(called string, v reflect.Value, l map[string]reflect.Value) {
	switch v.Kind() {
	case reflect.Struct:
		for i := range v.NumField() {
			leaves(called+"."+v.Type().Field(i).Name, v.Field(i), l)
		}
	case reflect.Slice:
		l[called] = v
		for i := range v.Len() {
			leaves(fmt.Sprintf("%s[%d]", called, i), v.Index(i), l)
		}
	default:
		l[called] = v
	}
}

func leavesOf(d *api.Definition) map[string]reflect.Value {
	l := map[string]reflect.Value{}
	leaves("", reflect.ValueOf(d).Elem(), l)
	return l
}

// change changes a number, a text or a condition, or adds something to a list, in its memory if there is room.
func change(v reflect.Value) {
	switch v.Kind() {
	case reflect.Int:
		v.SetInt(v.Int() + 1)
	case reflect.Bool:
		v.SetBool(!v.Bool())
	case reflect.String:
		v.SetString(v.String() + "a")
	case reflect.Slice:
		v.Set(reflect.Append(v, reflect.Zero(v.Type().Elem())))
	}
}

// samples returns definitions, each made anew, so that they share nothing.
func samples() []func() api.Definition {
	return []func() api.Definition{
		odd, full,
		func() api.Definition { return tested() },
		func() api.Definition { return chain(5) },
		func() api.Definition { return api.Definition{} },
		func() api.Definition { return api.Definition{Name: "d", Start: "m"} },
		func() api.Definition { return defined("m", api.Message{}) },
		func() api.Definition { return defined("m", message("m", api.Field{})) },
	}
}

func TestEqual(t *testing.T) {
	for i, first := range samples() {
		for j, second := range samples() {
			if schema.Equal(first(), second()) != (i == j) {
				t.Errorf("%d and %d: %t", i, j, i != j)
			}
		}
	}
}

func TestOneDifference(t *testing.T) {
	for _, made := range samples() {
		base := made()
		for called := range leavesOf(&base) {
			other := made()
			change(leavesOf(&other)[called])
			if schema.Equal(base, other) || schema.Equal(other, base) || !schema.Equal(other, other) {
				t.Errorf("%s makes no difference in %+v", called, base)
			}
		}
	}
}

func TestNilAndEmptyListsAreEqual(t *testing.T) {
	for _, x := range []struct{ a, b api.Definition }{
		{api.Definition{Name: "d"}, api.Definition{Name: "d", Messages: []api.Message{}}},
		{defined("m", message("m")), defined("m", api.Message{Name: "m", Fields: []api.Field{}})},
		{defined("m", message("m", pad("p", 8))), defined("m", message("m", api.Field{Name: "p", Kind: api.KindPad, Bits: 8, Cases: []api.Case{}, Size: api.Size{Terms: []api.Term{}}}))},
	} {
		if !schema.Equal(x.a, x.b) || !schema.Equal(x.b, x.a) {
			t.Errorf("%+v and %+v are not equal", x.a, x.b)
		}
	}
}

// TestOrderMatters swaps things in lists: what has another order has another text.
func TestOrderMatters(t *testing.T) {
	base := odd()
	for called, v := range leavesOf(&base) {
		if v.Kind() != reflect.Slice || v.Len() < 2 {
			continue
		}
		other := odd()
		l := leavesOf(&other)[called]
		reflect.Swapper(l.Interface())(0, 1)
		if schema.Equal(base, other) {
			t.Errorf("the order of %s makes no difference", called)
		}
	}
	if schema.Equal(tested(octets("x", 0, term(1, "n"), term(2, "c"))), tested(octets("x", 0, term(2, "c"), term(1, "n")))) {
		t.Error("the order of terms makes no difference")
	}
}

func TestCopy(t *testing.T) {
	for _, made := range samples() {
		d := made()
		c := schema.Copy(d)
		if !schema.Equal(c, d) || !schema.Equal(d, c) || !same(c, made()) || !same(d, made()) {
			t.Errorf("%+v, not %+v", c, d)
		}
		for called := range leavesOf(&d) {
			c := schema.Copy(d)
			change(leavesOf(&c)[called])
			if !same(d, made()) {
				t.Fatalf("%s of a copy is that of the definition", called)
			}
			c = schema.Copy(d)
			spoiled := made()
			d := schema.Copy(spoiled)
			change(leavesOf(&spoiled)[called])
			if !same(c, made()) || !same(d, made()) {
				t.Fatalf("%s of a definition is that of its copy", called)
			}
		}
	}
}

// same reports whether two definitions are equal, as far as they show it when they are printed.
func same(a, b api.Definition) bool { return fmt.Sprintf("%+v", a) == fmt.Sprintf("%+v", b) }

// memory notes where the lists of a definition are, and reports whether all of them are elsewhere
// than those that are noted already.
func memory(d *api.Definition, noted map[uintptr]bool) bool {
	apart := true
	for _, v := range leavesOf(d) {
		if v.Kind() == reflect.Slice && v.Cap() > 0 {
			apart = apart && !noted[v.Pointer()]
			noted[v.Pointer()] = true
		}
	}
	return apart
}

func TestCopiesHaveTheirOwnMemory(t *testing.T) {
	for i, made := range samples() {
		d := made()
		// The same fields stand in two messages, and there is room behind the messages.
		d.Messages = append(slices.Concat(d.Messages, d.Messages), message("behind"))[:2*len(d.Messages)]
		all := []api.Definition{d, schema.Copy(d), schema.Copy(d), schema.Copy(d)}
		noted := map[uintptr]bool{}
		memory(&all[0], noted)
		for j := 1; j < len(all); j++ {
			if !memory(&all[j], noted) || !schema.Equal(all[j], d) {
				t.Errorf("definition %d: its copies have memory in common", i)
			}
		}
		// A copy that nothing refers to any more could leave its memory to the next one.
		runtime.KeepAlive(all)
	}
}
