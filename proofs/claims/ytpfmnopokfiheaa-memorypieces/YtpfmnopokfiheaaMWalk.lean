/- The contract of walk: an iterator over the pieces of an access, which reads the map and what may be done with the pages. -/
import Derived.Test.YtpfmnopokfiheaaMMap
import Derived.RangeFuncNested
import Derived.RangeFuncBound
import Derived.RangeFuncCalls
import Derived.RangeFuncLeaves
import Derived.RangeFuncBox
import Derived.Shelf.Abstract
import Derived.Shelf.RegionOpen
import Derived.OwnWalkIn
import Derived.TacticsInMore
import Derived.LoopNIn
import Derived.LoopIn
import Derived.Maps.OwnIn
import Derived.Sort.QuietIn
namespace Go.Proofs.Ytpfmnopokfiheaa
open Go.ChangeShapes Go.WideShapes Go.ChangeAt Go.RowKit Go.Maps Go.Shelf
set_option linter.unusedVariables false
set_option linter.unusedSimpArgs false

/-- A piece that may be: of a page of L. -/
def Vp (L : List Pz) (q : Pz × Nat × Nat) : Prop := q.1 ∈ L ∧ q.2.1 + q.2.2 ≤ 4096 ∧ 1 ≤ q.2.2
abbrev Pc (L : List Pz) : Type := { q : Pz × Nat × Nat // Vp L q }
/-- A piece, as the walk hands it out. -/
def pcE (pl : Nat → Nat) (L : List Pz) (x : Pc L) : Array Value := #[.slice (some ⟨pl x.1.1.k, 1 + x.1.2.1, none⟩) x.1.2.2 (4096 - x.1.2.1)]
/-- What the walk reads. -/
structure IR (W : World) (mb gb : Nat) (pl : Nat → Nat) (L : List Pz) (D : DataW Value) (b1 b2 b3 b4 : Nat) (a n : Nat) (may : Int) : Prop where
  c1 : W.cell? ⟨b1, 0, none⟩ = some (.int .u64 (a : Int))
  c2 : W.cell? ⟨b2, 0, none⟩ = some (.int .i64 (n : Int))
  c3 : W.cell? ⟨b3, 0, none⟩ = some (.pointer (some ⟨mb, 0, none⟩))
  c4 : W.cell? ⟨b4, 0, none⟩ = some (.int .i64 may)
  m : W.cell? ⟨mb, 0, none⟩ = some (.map (some gb))
  own : W.ownsMap Try.prog 30 RV gb L.length D
  p : ∀ p ∈ L, W.cell? ⟨pl p.k, 0, none⟩ = some (.int .i64 p.may)

theorem IR.below {w W : World} {mb gb : Nat} {pl : Nat → Nat} {L : List Pz} {D : DataW Value} {b1 b2 b3 b4 a n : Nat} {may : Int} (h : IR w mb gb pl L D b1 b2 b3 b4 a n may) (hb : Below w.heap.size w W) : IR W mb gb pl L D b1 b2 b3 b4 a n may := by
  have e : ∀ {p : Addr} {v : Value}, w.cell? p = some v → W.cell? p = some v := fun {p v} hp => (hb.cell (p := p) (World.block_lt_of_cell? _ _ hp)).trans hp
  exact ⟨e h.c1, e h.c2, e h.c3, e h.c4, e h.m, own_below h.own hb, fun p hp => e (h.p p hp)⟩

theorem look72 {w : World} {gb n : Nat} {D : DataW Value} {pl : Nat → Nat} {L : List Pz} (h : w.ownsMap Try.prog 30 RV gb n D) (hI : Inv D pl L) {k : Nat} (hk : k < 18446744073709551616) :
    (Instr.lookup 60 (.map (some gb)) (.int .u64 (k : Int)) false).run Try.prog w = .ok (pgV (fnd L k) (pl k)) w := by
  obtain ⟨v, ps, hrun, hv⟩ := h.lookup law30 Try.underlying60 (zero72 w) (zd := .held (.pointer none)) (zp := []) rfl (key30 hk)
  rw [hI.at' k] at hv
  rw [hrun, held_inj hv rfl]

theorem walk_any (mb a : Nat) (n may : Int) (w : World) :
    Calls Try.prog 60 #[.pointer (some ⟨mb, 0, none⟩), .int .u64 (a : Int), .int .i64 n, .int .i64 may] w fun e w' =>
      e = .returned (.func (.func 65) #[] #[.pointer (some ⟨w.heap.size + 1, 0, none⟩), .pointer (some ⟨w.heap.size + 2, 0, none⟩), .pointer (some ⟨w.heap.size, 0, none⟩), .pointer (some ⟨w.heap.size + 3, 0, none⟩)]) ∧
      w' = (((w.alloc (.cells #[.pointer (some ⟨mb, 0, none⟩)] 23)).alloc (.cells #[.int .u64 (a : Int)] 30)).alloc (.cells #[.int .i64 n] 3)).alloc (.cells #[.int .i64 may] 3) := by
  have hmf : ∀ (fn : Fn) (first cap : Array Value) (w : World), (Instr.makeFunc fn first cap).run Try.prog w = .ok (.func fn first cap) w := by intros; rfl
  go_enter Try.func60, Try.ntmps60
  go_wp2
  go_ret
  exact ⟨by simp, rfl⟩

theorem arr73 : Try.prog.arrayLen 73 = 4096 := by kernel_rfl
theorem slice73 (b fr hi : Nat) (x : Int) (hx : x = (hi : Int)) (h1 : fr < 4096) (h2 : fr ≤ hi) (h3 : hi ≤ 4096) (n : Nat) (hn : hi - fr = n) (W : World) :
    (Instr.sliceAt 73 (.pointer (some ⟨b, 1, none⟩)) (some (.int .i64 (fr : Int))) (some (.int .i64 x)) none).run Try.prog W = .ok (.slice (some ⟨b, 1 + fr, none⟩) n (4096 - fr)) W := by
  subst hx hn
  have hs : (Try.prog.info? 5).map (·.size) = some 1 := by kernel_rfl
  cases hq : Try.prog.info? 5 with
  | none => rw [hq] at hs; cases hs
  | some i =>
    have hi1 : i.size = 1 := by rw [hq] at hs; simpa using hs
    have e1 : ¬ 4096 = fr := by omega
    have g1 : (0 : Int) ≤ (hi : Int) ∧ (hi : Int) ≤ 4096 := by omega
    have g2 : (0 : Int) ≤ (fr : Int) ∧ (fr : Int) ≤ (hi : Int) := by omega
    simp [Instr.sliceAt, run_underlying Try.underlying73, Instr.sureAddr, Instr.sliceBounds, Instr.sliceBound, asIntOf, g1, g2, sizeOf, typeInfo, hq, hi1, e1, addr_add, h2, h3]
theorem IR.drewN {w : World} {mb gb : Nat} {pl : Nat → Nat} {L : List Pz} {D : DataW Value} {b1 b2 b3 b4 a n : Nat} {may : Int} (h : IR w mb gb pl L D b1 b2 b3 b4 a n may) (q : Nat) : IR (w.drewN q) mb gb pl L D b1 b2 b3 b4 a n may :=
  ⟨h.c1, h.c2, h.c3, h.c4, h.m, h.own, h.p⟩
theorem ab_drewN {α : Type} {J : List α → World → Prop} {B : Nat} (hJ : AbidesFrom B J) {pre : List α} {w : World} (h : J pre w) (q : Nat) : J pre (w.drewN q) :=
  hJ pre w (w.drewN q) none h ⟨rfl, rfl, rfl, Nat.le_refl _, fun _ _ _ => rfl⟩ (fun _ e => by cases e)
/-- What is left of the pieces. -/
theorem pcs_none {L : List Pz} {may : Int} {f k fr left : Nat} (h : fnd L k = none) : pcs L may f k fr left = [] := by
  cases f with
  | zero => rfl
  | succ f => unfold pcs; split <;> simp [h]
theorem pcs_not {L : List Pz} {may : Int} {f k fr left : Nat} {p : Pz} (h : fnd L k = some p) (hb : ¬ bits .and .i64 p.may may = may) : pcs L may f k fr left = [] := by
  cases f with
  | zero => rfl
  | succ f => unfold pcs; split <;> simp [h, hb]
theorem pcs_end {L : List Pz} {may : Int} {f k fr : Nat} : pcs L may f k fr 0 = [] := by
  cases f with
  | zero => rfl
  | succ f => unfold pcs; rw [if_pos rfl]
theorem pcs_more {L : List Pz} {may : Int} {f k fr left : Nat} {p : Pz} (h : fnd L k = some p) (hb : bits .and .i64 p.may may = may) (h0 : left ≠ 0) :
    pcs L may (f + 1) k fr left = (p, fr, min left (4096 - fr)) :: pcs L may f (k + 1) 0 (left - min left (4096 - fr)) := by
  rw [pcs, if_neg h0]
  simp [h, hb]

set_option maxRecDepth 100000 in
set_option maxHeartbeats 2000000 in
theorem walk1_any (d : Nat) (hd : 1 ≤ d) (l mb gb : Nat) (pl : Nat → Nat) (L : List Pz) (hL : Mz L) (D : DataW Value) (hI : Inv D pl L) (b1 b2 b3 b4 a n : Nat) (may : Int) (ha : a < 18446744073709551616) (hn : n ≤ 1048576) (J Jx : List (Pc L) → World → Prop)
    (hY : ∀ pre x W, J pre W → pre.length < n → YieldAt Fence.wide (d - 1) Try.prog l (pcE pl L x) W fun e W' =>
      (e = .returned (.bool true) ∧ J (pre ++ [x]) W' ∧ (IR W mb gb pl L D b1 b2 b3 b4 a n may → IR W' mb gb pl L D b1 b2 b3 b4 a n may)) ∨ (e = .returned (.bool false) ∧ Jx (pre ++ [x]) W'))
    (W : World) (hJ : AbidesFrom W.heap.size J) (hR : IR W mb gb pl L D b1 b2 b3 b4 a n may) (h0 : J [] W) :
    CallsIn Fence.wide d Try.prog 65 #[.func (.yield l) #[] #[], .pointer (some ⟨b1, 0, none⟩), .pointer (some ⟨b2, 0, none⟩), .pointer (some ⟨b3, 0, none⟩), .pointer (some ⟨b4, 0, none⟩)] W fun e W' => (∃ v, e = .returned v) ∧
      ((∃ ys : List (Pc L), ys.map (fun x => x.1) = pcs L may (n + 1) (a / 4096) (a % 4096) n ∧ J ys W') ∨ (∃ pre, True ∧ Jx pre W')) := by
  have hc1 := hR.c1
  have hc2 := hR.c2
  have HR0 : Hid _ := ⟨hR⟩
  obtain ⟨AL, hAL⟩ : ∃ AL, pcs L may (n + 1) (a / 4096) (a % 4096) n = AL := ⟨_, rfl⟩
  rw [hAL]
  clear hR
  refine callsIn_of_wp Try.func65 rfl trivial ?_ rfl
  simp only [Try.ntmps65, List.size_toArray, List.length_cons, List.length_nil, Nat.reduceAdd, Nat.reduceSub, Array.replicate_succ, Array.replicate_zero, List.push_toArray, List.append_toArray, List.nil_append, List.cons_append]
  gi_wp2
  gi_quiet (fail)
  gi_wp2
  have h0' := ab_drewN hJ h0 nq
  have HR1 : Hid _ := ⟨HR0.out.drewN nq⟩
  gi_loopw [6, 7, 8] (fun vk vf vl wr => ∃ (f k fr left : Nat) (pre : List (Pc L)), vk = .int .u64 (k : Int) ∧ vf = .int .i64 (fr : Int) ∧ vl = .int .i64 (left : Int) ∧ k ≤ 4503599627370496 ∧ fr < 4096 ∧ left ≤ n ∧ Hid (left < f ∧ pre.length + left ≤ n ∧ AL = pre.map (fun x => x.1) ++ pcs L may f k fr left ∧ J pre wr ∧ IR wr mb gb pl L D b1 b2 b3 b4 a n may))
    (fun _ _ vl _ => (intOf vl).toNat)
  case atStart => exact ⟨n + 1, a / 4096, a % 4096, n, [], by go_num, by go_num, rfl, by omega, by omega, Nat.le_refl _, ⟨by omega, by simp, by rw [← hAL]; rfl, h0', HR1.out⟩⟩
  case round =>
    obtain ⟨f, k, fr, left, pre, rfl, rfl, rfl, hk, hfr, hleft, HI⟩ := hrel
    obtain ⟨hf, hpl, hal, hJs, hIR⟩ := HI.out
    have hi3 := hIR.c3
    have hi4 := hIR.c4
    have him := hIR.m
    have hlk := look72 hIR.own hI (k := k) (by omega)
    by_cases hz : left = 0
    · subst hz
      have h1 : ¬ (0 : Int) < ((0 : Nat) : Int) := by omega
      rw [pcs_end, List.append_nil] at hal
      have HA : Hid (∃ ys : List (Pc L), ys.map (fun x => x.1) = AL ∧ J ys wr) := ⟨⟨pre, hal.symm, hJs⟩⟩
      clear hlk hal
      gi_wp2
      go_end0
      exact ⟨⟨_, rfl⟩, .inl HA.out⟩
    have h1 : (0 : Int) < (left : Int) := by omega
    cases hp : fnd L k with
    | none =>
      rw [hp] at hlk
      simp only [pgV] at hlk
      rw [pcs_none hp, List.append_nil] at hal
      have HA : Hid _ := ⟨hal⟩
      have HJ : Hid _ := ⟨hJs⟩
      clear hJs hIR hal
      gi_wp2
      gi_quiet (fail)
      gi_wp2
      refine bodyPost_ret (results_none rfl _ _ _) rfl ?_
      exact ⟨⟨_, rfl⟩, .inl ⟨pre, HA.out.symm, ab_drewN hJ HJ.out _⟩⟩
    | some p =>
      obtain ⟨hpm, hpk⟩ := fnd_mem hp
      subst hpk
      rw [hp] at hlk
      simp only [pgV, pgP] at hlk
      have hpc := hIR.p p hpm
      have hpb := (hL.ok p hpm).k
      by_cases hb : bits .and .i64 p.may may = may
      rotate_left
      · have qb : (bits .and .i64 p.may may == may) = false := by simpa using hb
        rw [pcs_not hp hb, List.append_nil] at hal
        have HA : Hid _ := ⟨hal⟩
        have HJ : Hid _ := ⟨hJs⟩
        clear hJs hIR hal hb
        gi_wp2
        gi_quiet (fail)
        gi_wp2
        refine bodyPost_ret (results_none rfl _ _ _) rfl ?_
        exact ⟨⟨_, rfl⟩, .inl ⟨pre, HA.out.symm, ab_drewN hJ HJ.out _⟩⟩
      have qb : (bits .and .i64 p.may may == may) = true := by simpa using hb
      obtain ⟨f, rfl⟩ : ∃ f', f = f' + 1 := ⟨f - 1, by omega⟩
      by_cases hm : fr + left ≤ 4096
      · have hmin : min left (4096 - fr) = left := Nat.min_eq_left (by omega)
        have hv : Vp L (p, fr, left) := ⟨hpm, hm, Nat.pos_of_ne_zero hz⟩
        rw [pcs_more hp hb hz, hmin, Nat.sub_self, pcs_end] at hal
        have m1 : ((fr + left : Nat) : Int) ≤ 4096 := by omega
        have HJ : Hid _ := ⟨hJs⟩
        have HA : Hid _ := ⟨hal⟩
        have HIR : Hid _ := ⟨hIR⟩
        clear hJs hIR hal hb HI hmin
        gi_wp2
        gi_quiet (fail)
        have hsl := slice73 (pl p.k) fr (fr + left) ((fr : Int) + (left : Int)) (by omega) hfr (by omega) hm left (by omega)
        have hyy := hY pre ⟨(p, fr, left), hv⟩ _ (ab_drewN hJ HJ.out nq) (by omega)
        unfold pcE at hyy
        simp only at hyy
        obtain ⟨fn, tmps, assign, body, hy, hRr⟩ := hyy
        gi_wp2
        refine hRr.mono ?_
        rintro e W3 (⟨rfl, hJ3, hk3⟩ | ⟨rfl, hJx3⟩)
        · gi_wp2
          go_roundw
          case rel => exact ⟨f, p.k + 1, 0, 0, pre ++ [⟨(p, fr, left), hv⟩], by go_num, rfl, by go_num, by omega, by omega, by omega, ⟨by omega, by simp; omega, by rw [HA.out, pcs_end]; simp, hJ3, hk3 (HIR.out.drewN _)⟩⟩
          case measure => simp [intOf]; omega
        · gi_wp2
          refine bodyPost_ret (results_none rfl _ _ _) rfl ?_
          exact ⟨⟨_, rfl⟩, .inr ⟨_, trivial, hJx3⟩⟩
      · have hmin : min left (4096 - fr) = 4096 - fr := Nat.min_eq_right (by omega)
        have hv : Vp L (p, fr, 4096 - fr) := ⟨hpm, by simp; omega, by simp; omega⟩
        rw [pcs_more hp hb hz, hmin] at hal
        have m1 : (4096 : Int) < ((fr + left : Nat) : Int) := by omega
        have HJ : Hid _ := ⟨hJs⟩
        have HA : Hid _ := ⟨hal⟩
        have HIR : Hid _ := ⟨hIR⟩
        clear hJs hIR hal hb HI hmin
        gi_wp2
        gi_quiet (fail)
        have hsl := slice73 (pl p.k) fr 4096 4096 (by omega) hfr (by omega) (by omega) (4096 - fr) rfl
        have hyy := hY pre ⟨(p, fr, 4096 - fr), hv⟩ _ (ab_drewN hJ HJ.out nq) (by omega)
        unfold pcE at hyy
        simp only at hyy
        obtain ⟨fn, tmps, assign, body, hy, hRr⟩ := hyy
        gi_wp2
        refine hRr.mono ?_
        rintro e W3 (⟨rfl, hJ3, hk3⟩ | ⟨rfl, hJx3⟩)
        · gi_wp2
          go_roundw
          case rel => exact ⟨f, p.k + 1, 0, left - (4096 - fr), pre ++ [⟨(p, fr, 4096 - fr), hv⟩], by go_num, rfl, by go_num, by omega, by omega, by omega, ⟨by omega, by simp; omega, by rw [HA.out]; simp, hJ3, hk3 (HIR.out.drewN _)⟩⟩
          case measure => simp [intOf]; omega
        · gi_wp2
          refine bodyPost_ret (results_none rfl _ _ _) rfl ?_
          exact ⟨⟨_, rfl⟩, .inr ⟨_, trivial, hJx3⟩⟩

theorem walk_stops (d : Nat) (hd : 1 ≤ d) (mb gb : Nat) (pl : Nat → Nat) (L : List Pz) (hL : Mz L) (D : DataW Value) (hI : Inv D pl L) (b1 b2 b3 b4 a n : Nat) (may : Int) (ha : a < 18446744073709551616) (hn : n ≤ 1048576) (w : World) (hR : IR w mb gb pl L D b1 b2 b3 b4 a n may) :
    SeqStopsK Fence.wide d Try.prog 65 #[.pointer (some ⟨b1, 0, none⟩), .pointer (some ⟨b2, 0, none⟩), .pointer (some ⟨b3, 0, none⟩), .pointer (some ⟨b4, 0, none⟩)] (pcE pl L) (fun W W' => IR W mb gb pl L D b1 b2 b3 b4 a n may → IR W' mb gb pl L D b1 b2 b3 b4 a n may)
      (fun ys => ys.map (fun x => x.1) = pcs L may (n + 1) (a / 4096) (a % 4096) n) (fun _ => True) n w := fun l J Jx W hW hJ _ hY h0 =>
  walk1_any d hd l mb gb pl L hL D hI b1 b2 b3 b4 a n may ha hn J Jx hY W hJ (hR.below hW) h0
end Go.Proofs.Ytpfmnopokfiheaa
