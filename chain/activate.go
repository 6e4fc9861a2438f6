package chain

import (
	"bedrock/api"
	"bedrock/locate"
)

// Activate turns to the best chain, and tells the steps.
func (c *Chain) Activate() []api.Step {
	if c == nil {
		return nil
	}
	var steps []api.Step
	for again := true; again; {
		var way []api.Step
		way, again = c.turn()
		steps = append(steps, way...)
	}
	return steps
}

// turn goes from the tip to what is best now; true, if a block on the way was refused: then that is another one.
func (c *Chain) turn() ([]api.Step, bool) {
	from, _ := c.coins.Tip()
	undo, connect, _ := locate.Path(c.tree, from, c.tree.Best())
	var steps []api.Step
	for _, id := range undo {
		step, ok := c.undo(id)
		if !ok {
			return steps, false
		}
		steps = append(steps, step)
	}
	for _, id := range connect {
		step := c.connect(id)
		steps = append(steps, step)
		if step.Kind == api.StepRefuse {
			return steps, true
		}
	}
	return steps, false
}

// undo undoes the tip; false, if that can't be, as what Set laid there was not the tip's.
func (c *Chain) undo(id api.Hash) (api.Step, bool) {
	_, height := c.coins.Tip()
	if c.coins.Disconnect(c.bodies[id], c.undos[id], height) != api.OK {
		return api.Step{}, false
	}
	delete(c.undos, id)
	return api.Step{Kind: api.StepUndo, ID: id, Height: height}, true
}

// connect connects a block on the tip, or has it be bad, if it may not be connected.
func (c *Chain) connect(id api.Hash) api.Step {
	_, height := c.coins.Tip()
	height++
	u, e := c.coins.Connect(c.bodies[id], height)
	if e != api.OK {
		c.tree.Bad(id)
		return api.Step{Kind: api.StepRefuse, ID: id, Height: height, Err: e}
	}
	c.undos[id] = u
	return api.Step{Kind: api.StepConnect, ID: id, Height: height}
}
