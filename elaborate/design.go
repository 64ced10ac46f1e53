package elaborate

import "wireloom/api"

// mostInstances is the greatest number of instances of a design.
const mostInstances = 64

// design is the instances of a design, in order, and those of their parts that processes and channels are made of.
type design struct {
	instances []*instance
	procs     []*instance
	chans     []channel
}

// instance is an instance of a module.
type instance struct {
	*module
	path   string
	around *instance      // the instance with the item, or nil for the top one
	item   api.Item       // the item
	chans  map[string]int // the indices of the channels of the circuit that its ports and channels are
	values map[string]int // of its parameters
}

// channel is a channel of a circuit: a port of the top instance, or a channel of any one.
type channel struct {
	in   *instance
	item api.Item
}

// module is a module of a valid file, in which each name refers to one item.
type module struct {
	api.Module
	isProcess bool
	declared  map[string]int // the item that declares each name
	places    map[string]int // the index of each register and memory, and of the take from each port and channel
}

func readModule(m api.Module) *module {
	read := &module{Module: m, declared: map[string]int{}, places: map[string]int{}}
	count := map[int]int{}
	for i, item := range m.Items {
		switch item.Kind {
		case api.IReg, api.IMem, api.ITake:
			read.places[item.Name] = count[item.Kind]
			count[item.Kind]++
			read.isProcess = true
		case api.IPut:
			read.isProcess = true
		}
		if item.Kind != api.ITake && item.Kind != api.IPut {
			read.declared[item.Name] = i
		}
	}
	return read
}

// named returns the item that a name refers to.
func (m *module) named(name string) api.Item {
	return m.Items[m.declared[name]]
}

// listInstances returns the instances of a design; it gives up if there are too many.
func listInstances(modules map[string]*module, top string) []*instance {
	var all []*instance
	var visit func(i *instance)
	visit = func(i *instance) {
		all = append(all, i)
		require(len(all) <= mostInstances, api.ErrBig)
		for _, item := range i.Items {
			if item.Kind == api.IInst {
				visit(&instance{module: modules[item.Of], path: i.path + "." + item.Name, around: i, item: item})
			}
		}
	}
	visit(&instance{module: modules[top], path: top})
	return all
}

// listParts finds the processes and the channels of the circuit.
func (d *design) listParts() {
	for _, i := range d.instances {
		i.chans = map[string]int{}
		if i.around == nil {
			d.listChans(i, isPort)
		}
		for _, b := range i.item.Ports {
			i.chans[b.Port] = i.around.chans[b.Chan]
		}
		d.listChans(i, isChan)
		if i.isProcess {
			d.procs = append(d.procs, i)
		}
	}
}

// listChans makes channels of some items of an instance.
func (d *design) listChans(i *instance, isOne func(item api.Item) bool) {
	for _, item := range i.Items {
		if isOne(item) {
			i.chans[item.Name] = len(d.chans)
			d.chans = append(d.chans, channel{i, item})
		}
	}
}

func isPort(item api.Item) bool {
	return item.Kind == api.IIn || item.Kind == api.IOut
}

func isChan(item api.Item) bool {
	return item.Kind == api.IChan
}
