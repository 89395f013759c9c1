package watch

import (
	"lagoon/api"
	"lagoon/path"
)

// wish is what a watch is for: each kind of watch has a type of its own.
type wish interface {
	// isMetBy is asked of changes that may be alone.
	isMetBy(c api.Change) bool
}

type toData struct{ at string }

type toChild struct{ at string }

type toStay struct{ at string }

type toBelow struct{ at string }

func (d toData) isMetBy(c api.Change) bool { return c.Path == d.at && isOfNode(c) }

func (d toChild) isMetBy(c api.Change) bool {
	return c.Path == d.at && (c.Kind == api.Gone || c.Kind == api.Childs)
}

func (d toStay) isMetBy(c api.Change) bool { return c.Path == d.at }

func (d toBelow) isMetBy(c api.Change) bool {
	return isOfNode(c) && (c.Path == d.at || path.Below(c.Path, d.at))
}

// isOfNode tells a change of the node itself from one of its children.
func isOfNode(c api.Change) bool { return c.Kind != api.Childs }

// wishOf is what a watch is for, if it is a watch.
func wishOf(w api.Watch) (wish, bool) {
	if !isPath(w.Path) {
		return nil, false
	}
	switch w.Kind {
	case api.WatchData:
		return toData{w.Path}, true
	case api.WatchChild:
		return toChild{w.Path}, true
	case api.WatchStay:
		return toStay{w.Path}, true
	case api.WatchBelow:
		return toBelow{w.Path}, true
	}
	return nil, false
}
