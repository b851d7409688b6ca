/- Communication in one goroutine, as rules of the walk: 'Code.wp' speaks of the machine's own steps, so a send with room and a receive that need not wait are steps like others. -/
import Derived.Conc.LoneCalls
import Derived.Conc.LoneSelectN
import Derived.OrdersHeld
import Derived.Deep.RegionHeld
namespace Go.Proofs.Ytbhdledlahbokaa
open Go.Conc Go.RowKit

section
variable {P : Program} {ops : Array Oper} {Q : Exit → Act → World → Prop} {a : Act} {w w' : World} {i : Nat} {rest : List Nat} {o : Oper}

/-- What is left of a region's operations, said of the machine's own steps. -/
def Sops (P : Program) (ops : Array Oper) (Q : Exit → Act → World → Prop) (l : List Nat) (a : Act) (w : World) : Prop :=
  ∀ (b : Frame) (k : List Item) (cs : List Frame), ∃ e a' w', Q e a' w' ∧ Arrives P (lone (b.at a (.inRegion ops l :: k)) cs w) b k cs e a' w'

theorem sops_of {l : List Nat} (h : wpOps P ops Q l a w) : Sops P ops Q l a w := wp_ops l a w h
theorem sops_nil (h : Q .normal a w) : Sops P ops Q [] a w := fun _ _ _ => ⟨.normal, a, w, h, .one step_region_end⟩
theorem wp_sops {id : Nat} (h : Sops P ops Q (List.range ops.size) a w) : (Code.region id ops false).wp P Q a w :=
  fun b k cs => let ⟨e, a', w', q, r⟩ := h b k cs; ⟨e, a', w', q, .of_steps (.one step_region) r⟩

theorem sops_val {v : Value} (ho : ops[i]? = some o) (hw : Region.wanted o (yielded ops a.tmps) = true) (hr : (execOp a.eval o).run P w = .ok (.value v) w')
    (h : Sops P ops Q rest (a.put o.dst v) w') : Sops P ops Q (i :: rest) a w := by
  intro b k cs
  obtain ⟨e, a', w'', hq, harr⟩ := h b k cs
  have hg := stepG_op (P := P) (b := b) (k := k) (cs := cs) (w := w) (rest := rest) ho hw
  have hfin : (b.at a (.inRegion ops (i :: rest) :: k)).finish v = b.at (a.put o.dst v) (.inRegion ops rest :: k) := by rw [Frame.finish_at, ho]; rfl
  refine ⟨e, a', w'', hq, .of_steps (.one (step_lone_go ?_)) harr⟩
  rw [hg, ← hfin]; simp [stepG.apply, hr]

theorem sops_skip (ho : ops[i]? = some o) (hw : Region.wanted o (yielded ops a.tmps) = false)
    (h : Sops P ops Q rest (a.put o.dst undef) w) : Sops P ops Q (i :: rest) a w := by
  intro b k cs
  obtain ⟨e, a', w'', hq, harr⟩ := h b k cs
  have hs := step_op_skip (P := P) (b := b) (a := a) (k := k) (cs := cs) (w := w) (ops := ops) (i := i) (rest := rest) (by simp [ho, hw])
  simp only [ho, Option.bind_some] at hs
  exact ⟨e, a', w'', hq, .of_steps (.one hs) harr⟩

theorem stepG_com {b : Frame} {k : List Item} {cs : List Frame} {cases : Array CommCase} {blocking : Bool} {shape : CommShape} (ho : ops[i]? = some o) (hw : Region.wanted o (yielded ops a.tmps) = true)
    (hr : (execOp a.eval o).run P w = .ok (.comm cases blocking shape) w') :
    ∃ es, stepG P true (G (b.at a (.inRegion ops (i :: rest) :: k)) cs) w = .comm (G (b.at a (.inRegion ops (i :: rest) :: k)) cs) cases blocking shape w' es := by
  by_cases hk : b.kind = .early
  · rw [stepG_oper ho hw]
    simp [stepG.apply, hr, G, Frame.at, hk, GStep.after]
  · exact ⟨_, stepG_comm ho hw hk hr⟩

variable {c cap s r : Nat} {buf : Array Value} {v z : Value} {tm : Bool}
/-- A send into a buffer with room. -/
theorem sops_send (ho : ops[i]? = some o) (hw : Region.wanted o (yielded ops a.tmps) = true) (hr : (execOp a.eval o).run P w = .ok (.comm #[scase c v z] true .send) w')
    (hc : w'.heap[c]? = some (.chan cap buf false s r tm)) (hroom : buf.size < cap)
    (h : Sops P ops Q rest (a.put o.dst undef) (w'.setChan c cap (buf.push v) false (s + 1) r tm)) : Sops P ops Q (i :: rest) a w := by
  intro b k cs
  obtain ⟨e, a', w'', hq, harr⟩ := h b k cs
  have hfin : (b.at a (.inRegion ops (i :: rest) :: k)).finish undef = b.at (a.put o.dst undef) (.inRegion ops rest :: k) := by rw [Frame.finish_at, ho]; rfl
  obtain ⟨es, hg⟩ := stepG_com (P := P) (b := b) (k := k) (cs := cs) (rest := rest) ho hw hr
  have hs := step_lone_send_room hg hc hroom
  rw [hfin] at hs
  exact ⟨e, a', w'', hq, .of_steps (.one hs) harr⟩

/-- A select of one receive, its buffer holding something. -/
theorem sops_take {blocking closed : Bool} (ho : ops[i]? = some o) (hw : Region.wanted o (yielded ops a.tmps) = true) (hr : (execOp a.eval o).run P w = .ok (.comm #[rcase c z] blocking .select) w')
    (hc : w'.heap[c]? = some (.chan cap buf closed s r tm)) (hsome : 0 < buf.size)
    (h : Sops P ops Q rest (a.put o.dst (.tuple #[goInt 0, .bool true, buf.getD 0 undef])) (w'.setChan c cap (buf.extract 1 buf.size) closed s (r + 1) tm)) : Sops P ops Q (i :: rest) a w := by
  intro b k cs
  obtain ⟨e, a', w'', hq, harr⟩ := h b k cs
  obtain ⟨es, hg⟩ := stepG_com (P := P) (b := b) (k := k) (cs := cs) (rest := rest) ho hw hr
  have hs := step_lone_sel_recv_buf (k := 0) hg rfl (fun m c' hm hc' => by rcases m with _ | m; exact absurd rfl hm; simp at hc') hc hsome
  have hv : ∀ x, commResult #[rcase c z] .select ((0 : Nat) : Int) x true = .tuple #[goInt 0, .bool true, x] := fun x => by simp [commResult, rcase, List.zipIdx_cons]
  rw [hv, Frame.finish_at, ho] at hs
  exact ⟨e, a', w'', hq, .of_steps (.one hs) harr⟩

/-- A select of one receive, the channel closed and empty. -/
theorem sops_shut {blocking : Bool} (ho : ops[i]? = some o) (hw : Region.wanted o (yielded ops a.tmps) = true) (hr : (execOp a.eval o).run P w = .ok (.comm #[rcase c z] blocking .select) w')
    (hc : w'.heap[c]? = some (.chan cap #[] true s r tm))
    (h : Sops P ops Q rest (a.put o.dst (.tuple #[goInt 0, .bool false, z])) w') : Sops P ops Q (i :: rest) a w := by
  intro b k cs
  obtain ⟨e, a', w'', hq, harr⟩ := h b k cs
  obtain ⟨es, hg⟩ := stepG_com (P := P) (b := b) (k := k) (cs := cs) (rest := rest) ho hw hr
  have hs := step_lone_sel_recv_shut (k := 0) hg rfl (fun m c' hm hc' => by rcases m with _ | m; exact absurd rfl hm; simp at hc') hc
  have hv : ∀ x, commResult #[rcase c z] .select ((0 : Nat) : Int) x false = .tuple #[goInt 0, .bool false, x] := fun x => by simp [commResult, rcase, List.zipIdx_cons]
  rw [hv, Frame.finish_at, ho] at hs
  exact ⟨e, a', w'', hq, .of_steps (.one hs) harr⟩
end

section
variable {P : Program} {ops : Array Oper} {Q : Exit → Act → World → Prop} {md : Region.Mode} {S : World → Prop}
/-- A send with room. -/
structure Sends (P : Program) (ops : Array Oper) (a : Act) (w : World) (o : Oper) (c cap s r : Nat) (buf : Array Value) (v z : Value) : Prop where
  wants : Region.wanted o (yielded ops a.tmps) = true
  run : (execOp a.eval o).run P w = .ok (.comm #[scase c v z] true .send) w
  chan : w.heap[c]? = some (.chan cap buf false s r false)
  room : buf.size < cap
/-- One operation of a region that draws: it yields a value in every world that meets S, or is a send. -/
def OpS (P : Program) (ops : Array Oper) (S : World → Prop) (i : Nat) (K : Act → World → Prop) (a : Act) (w : World) : Prop :=
  ∃ o, ops[i]? = some o ∧ ((∃ v, YieldsIf P ops S o v a ∧ K (a.put o.dst v) w) ∨
    ∃ c cap s r buf v z, Sends P ops a w o c cap s r buf v z ∧ K (a.put o.dst undef) (w.setChan c cap (buf.push v) false (s + 1) r false))
/-- Whatever order is picked from here on. -/
def AnyS (P : Program) (md : Region.Mode) (ops : Array Oper) (Q : Exit → Act → World → Prop) (S : World → Prop) : Nat → Array Bool → Act → World → Prop
  | 0, listed, a, w => Region.ready md ops listed = [] ∧ Q .normal a w
  | fuel + 1, listed, a, w => (Region.ready md ops listed = [] → Q .normal a w) ∧
    ∀ i ∈ Region.ready md ops listed, S w ∧ OpS P ops S i (fun a' w' => S w' ∧ AnyS P md ops Q S fuel (listed.setIfInBounds i true) a' w') a w

theorem opS_mono {i : Nat} {a : Act} {w : World} {K K' : Act → World → Prop} (h : ∀ a w, K a w → K' a w) (hh : OpS P ops S i K a w) : OpS P ops S i K' a w := by
  obtain ⟨o, ho, h1⟩ := hh
  refine ⟨o, ho, ?_⟩
  rcases h1 with ⟨v, hy, hk⟩ | ⟨c, cap, s, r, buf, v, z, hs, hk⟩
  · exact .inl ⟨v, hy, h _ _ hk⟩
  · exact .inr ⟨c, cap, s, r, buf, v, z, hs, h _ _ hk⟩

theorem opS_put {j : Nat} {oi oj : Oper} {v : Value} (hj : ops[j]? = some oj) (hap : oi.apart ops oj = true)
    (hsi : ∀ cs b, oi.op ≠ .select cs b) (hsj : ∀ cs b, oj.op ≠ .select cs b) {K : Act → World → Prop} {a : Act} {w : World}
    (hy : YieldsIf P ops S oi v a) (h : OpS P ops S j K (a.put oi.dst v) w) :
    OpS P ops S j (fun a' w' => YieldsIf P ops S oi v a' ∧ K (a'.put oi.dst v) w') a w := by
  obtain ⟨h1, h2, h3⟩ := Oper.apart_spec hap
  have keep : ∀ u, YieldsIf P ops S oi v (a.put oj.dst u) := fun u => hy.of_same (execOp_put oi hsi a oj.dst u h3) (wanted_put oi a oj.dst u h3)
  obtain ⟨o, ho, hh⟩ := h
  rw [hj] at ho
  injection ho with ho
  subst ho
  refine ⟨oj, hj, ?_⟩
  rcases hh with ⟨u, hu, hk⟩ | ⟨c, cap, s, r, buf, u, z, hs, hk⟩
  · refine .inl ⟨u, hu.of_same (execOp_put oj hsj a oi.dst v h1).symm (wanted_put oj a oi.dst v h1).symm, keep u, ?_⟩
    rw [← Act.put_comm a v u h2]; exact hk
  · refine .inr ⟨c, cap, s, r, buf, u, z, ⟨by rw [← wanted_put oj a oi.dst v h1]; exact hs.wants, by rw [← execOp_put oj hsj a oi.dst v h1]; exact hs.run, hs.chan, hs.room⟩, keep _, ?_⟩
    rw [← Act.put_comm a v undef h2]; exact hk

theorem anyS_first {i : Nat} {oi : Oper} {v : Value} (hi : ops[i]? = some oi) (hsel : ∀ (j : Nat) (o : Oper) cs b, ops[j]? = some o → o.op ≠ .select cs b) :
    ∀ (fuel : Nat) (listed : Array Bool) (a : Act) (w : World),
      (∀ j oj, ops[j]? = some oj → j ≠ i → listed.getD j true = false → (∀ e ∈ oj.after, Region.binds md e = true → e.on ≠ i) → oi.apart ops oj = true) →
      i ∈ Region.ready md ops listed → YieldsIf P ops S oi v a → S w →
      AnyS P md ops Q S fuel (listed.setIfInBounds i true) (a.put oi.dst v) w → AnyS P md ops Q S (fuel + 1) listed a w := by
  intro fuel
  induction fuel with
  | zero =>
    intro listed a w _ hr hy hS H
    refine ⟨fun h => (by rw [h] at hr; cases hr), fun j hj => ⟨hS, ?_⟩⟩
    by_cases hji : j = i
    · subst hji; exact ⟨oi, hi, .inl ⟨v, hy, hS, H⟩⟩
    · have := ready_mono hj hji
      rw [H.1] at this
      cases this
  | succ fuel ih =>
    intro listed a w hfree hr hy hS H
    refine ⟨fun h => (by rw [h] at hr; cases hr), fun j hj => ⟨hS, ?_⟩⟩
    by_cases hji : j = i
    · subst hji; exact ⟨oi, hi, .inl ⟨v, hy, hS, H⟩⟩
    · have h1 := (H.2 j (ready_mono hj hji)).2
      obtain ⟨hjun, oj, hoj, hall⟩ := mem_ready.1 hj
      have hnot : ∀ e ∈ oj.after, Region.binds md e = true → e.on ≠ i := fun e he hb heq => by
        have h1 := hall e he hb
        have h0 := (mem_ready.1 hr).1
        rw [heq] at h1
        rcases Nat.lt_or_ge i listed.size with h' | h'
        · simp [h'] at h0 h1; rw [h0] at h1; cases h1
        · simp [Array.getElem?_eq_none h'] at h1
      have h2 := opS_put hoj (hfree j oj hoj hji hjun hnot) (fun cs b => hsel i oi cs b hi) (fun cs b => hsel j oj cs b hoj) hy h1
      refine opS_mono (fun a' w' h3 => ⟨h3.2.1, ih (listed.setIfInBounds j true) a' w' (fun k ok hk hki hun hno => ?_) (ready_mono hr (Ne.symm hji)) h3.1 h3.2.1 ?_⟩) h2
      · refine hfree k ok hk hki ?_ hno
        by_cases hjk : j = k
        · subst hjk; exact hjun
        · rw [getD_set_ne true hjk] at hun; exact hun
      · rw [Array.setIfInBounds_comm _ _ hji]
        exact h3.2.2

/-- Number 'i' first: it may come up, and yields 'v' in every world that meets S. -/
theorem anyS_take {i : Nat} {oi : Oper} {v : Value} {fuel : Nat} {listed : Array Bool} {a : Act} {w : World} (hi : ops[i]? = some oi)
    (hs : Region.noSelect ops = true) (hf : Region.free md ops listed i = true) (hr : (Region.ready md ops listed).contains i = true)
    (hy : YieldsIf P ops S oi v a) (hS : S w)
    (h : AnyS P md ops Q S fuel (listed.setIfInBounds i true) (a.put oi.dst v) w) : AnyS P md ops Q S (fuel + 1) listed a w :=
  anyS_first hi (Region.noSelect_spec hs) fuel listed a w (Region.free_spec hi hf) (by simpa using hr) hy hS h

/-- The send, which alone is left. -/
theorem anyS_send {i : Nat} {o : Oper} {fuel : Nat} {listed : Array Bool} {a : Act} {w : World} {c cap s r : Nat} {buf : Array Value} {v z : Value} (hr : Region.ready md ops listed = [i]) (ho : ops[i]? = some o) (hS : S w)
    (hs : Sends P ops a w o c cap s r buf v z) (hS' : S (w.setChan c cap (buf.push v) false (s + 1) r false)) (hr' : Region.ready md ops (listed.setIfInBounds i true) = [])
    (h : Q .normal (a.put o.dst undef) (w.setChan c cap (buf.push v) false (s + 1) r false)) : AnyS P md ops Q S (fuel + 1) listed a w := by
  refine ⟨fun h0 => (by rw [hr] at h0; cases h0), fun j hj => ⟨hS, ?_⟩⟩
  rw [hr] at hj
  have : j = i := by simpa using hj
  subst this
  refine ⟨o, ho, .inr ⟨c, cap, s, r, buf, v, z, hs, hS', ?_⟩⟩
  cases fuel with
  | zero => exact ⟨hr', h⟩
  | succ f => exact ⟨fun _ => h, by rw [hr']; simp⟩

theorem anyS_sound : ∀ (fuel t : Nat) (listed : Array Bool) (a : Act) (w : World), AnyS P md ops Q S fuel listed a w →
    Sops P ops Q (Region.linearise.go md ops fuel t listed []) a w := by
  intro fuel
  induction fuel with
  | zero => intro t listed a w h; exact sops_nil h.2
  | succ fuel ih =>
    intro t listed a w h
    obtain ⟨h₀, h₁⟩ := h
    have hgo : Region.linearise.go md ops (fuel + 1) t listed [] = (match (Region.ready md ops listed)[t % (Region.ready md ops listed).length]? with
      | some i => Region.linearise.go md ops fuel (t / (Region.ready md ops listed).length) (listed.setIfInBounds i true) [i]
      | none => []) := rfl
    rw [hgo]
    cases hi : (Region.ready md ops listed)[t % (Region.ready md ops listed).length]? with
    | none =>
      refine sops_nil (h₀ ?_)
      cases hr : Region.ready md ops listed with
      | nil => rfl
      | cons x xs =>
        rw [hr] at hi
        have hlt : t % (x :: xs).length < (x :: xs).length := Nat.mod_lt _ (by simp)
        rw [List.getElem?_eq_none_iff] at hi
        omega
    | some i =>
      simp only []
      rw [linearise_go_acc, List.reverse_singleton, List.singleton_append]
      obtain ⟨hS, o, ho, hh⟩ := h₁ i (List.mem_of_getElem? hi)
      rcases hh with ⟨v, hy, hk⟩ | ⟨c, cap, s, r, buf, v, z, hs, hk⟩
      · rcases hy with ⟨hw, hv⟩ | ⟨hw, rfl⟩
        · exact sops_val ho hw (hv w hS) (ih _ _ _ _ hk.2)
        · exact sops_skip ho hw (ih _ _ _ _ hk.2)
      · exact sops_send ho hs.wants hs.run hs.chan hs.room (ih _ _ _ _ hk.2)

/-- A region that draws its order, with a send. -/
theorem wp_region_sends {id : Nat} {a : Act} {w : World} (S : World → Prop) (hm : P.follows .mixedOrders = true)
    (h : AnyS P .any ops Q S ops.size (Array.replicate ops.size false) a w.drew) : (Code.region id ops true).wp P Q a w := fun b k cs => by
  have hs : ∃ l, Steps P (lone (b.at a (.code (.region id ops true) :: k)) cs w) (lone (b.at a (.inRegion ops l :: k)) cs w.drew) ∧ Sops P ops Q l a w.drew := by
    refine ⟨_, .one step_region_draw, ?_⟩
    simp only [Region.schedule, hm, Bool.true_or, if_true]
    exact anyS_sound ops.size _ _ a _ h
  obtain ⟨l, h1, h2⟩ := hs
  obtain ⟨e, a', w', q, r⟩ := h2 b k cs
  exact ⟨e, a', w', q, .of_steps h1 r⟩
end
end Go.Proofs.Ytbhdledlahbokaa
