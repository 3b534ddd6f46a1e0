package dialect

import (
	"slices"
	"strings"

	"demotic/api"
)

// foreignPrefix is how the names of attributes begin that any operation may have.
const foreignPrefix = "x_"

// hasRegions tells whether an operation with these regions has as many as a description says, and of as many blocks.
func hasRegions(d Def, regions []api.Region) bool {
	for _, r := range regions {
		if len(r.Blocks) > 1 && !slices.Contains(d.Traits, blocks) {
			return false
		}
	}
	return len(regions) == d.Regions
}

// hasAttributes tells whether a list has the attributes of a description, and others only as any operation may have them.
func hasAttributes(d Def, l []api.Attr) bool {
	seen := map[string]bool{}
	missing := len(d.Attrs)
	for _, a := range l {
		need, isNeeded := search(d.Attrs, a.Name, nameOfNeed)
		if seen[a.Name] || isNeeded && need.Kind != a.Kind || !isNeeded && !strings.HasPrefix(a.Name, foreignPrefix) {
			return false
		}
		seen[a.Name] = true
		if isNeeded {
			missing--
		}
	}
	return missing == 0
}

// gathered returns the traits that say what an operation may do, rising. It is not ok if no dialect has it, or one inside of it.
func gathered(l []Dialect, op api.Op) ([]string, bool) {
	does := map[string]bool{}
	// Data may contain themselves, and need not be looked at twice.
	visited := map[*api.Op]bool{}
	var visit func(o *api.Op) bool
	visit = func(o *api.Op) bool {
		if visited[o] {
			return true
		}
		visited[o] = true
		own, ok := ownEffects(l, o)
		if !ok {
			return false
		}
		for _, t := range own {
			does[t] = true
		}
		for _, r := range o.Regions {
			for _, b := range r.Blocks {
				for i := range b.Ops {
					if !visit(&b.Ops[i]) {
						return false
					}
				}
			}
		}
		return true
	}
	if !visit(&op) {
		return nil, false
	}
	if op.Name == functionName || len(does) == 0 {
		return list(pure), true
	}
	return slices.DeleteFunc(effects(), func(t string) bool { return !does[t] }), true
}

// ownEffects returns the effects that an operation has apart from what is inside of it.
func ownEffects(l []Dialect, o *api.Op) ([]string, bool) {
	d, ok := definition(l, o.Name)
	if !ok {
		return nil, false
	}
	var own []string
	// What has a region may run it for ever.
	if len(o.Regions) > 0 && o.Name != choiceName && o.Name != functionName {
		own = append(own, traps)
	}
	for _, t := range d.Traits {
		if slices.Contains(effects(), t) {
			own = append(own, t)
		}
	}
	return own, true
}
