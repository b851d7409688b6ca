/- The key by which names are sorted; the comparison. -/
import Derived.Test.YtojiomkinhnodaaYWork
import Derived.Sort.Grow
namespace Go.Proofs.Ytojiomkinhnodaa
open Go.ChangeShapes Go.WideShapes Go.ChangeAt Go.RowKit Go.Maps
set_option linter.unusedVariables false
set_option linter.unusedSimpArgs false

/-- Nothing has turned but draws and new blocks. -/
def Gr (w w' : World) : Prop := ∃ q os, w' = Sort.grow (w.drewN q) os
theorem Gr.refl (w : World) : Gr w w := ⟨0, #[], by rw [Sort.grow_empty]; rfl⟩
theorem Gr.alloc {w w' : World} (h : Gr w w') (o : Obj) : Gr w (w'.alloc o) := by
  obtain ⟨q, os, rfl⟩ := h
  exact ⟨q, os ++ #[o], by rw [Sort.alloc_eq_grow, Sort.grow_grow]⟩
theorem Gr.drewN {w w' : World} (h : Gr w w') (n : Nat) : Gr w (w'.drewN n) := by
  obtain ⟨q, os, rfl⟩ := h
  refine ⟨q + n, os, ?_⟩
  unfold Sort.grow World.drewN
  simp only [Nat.add_assoc]
theorem Gr.drew {w w' : World} (h : Gr w w') : Gr w w'.drew := h.drewN 1
theorem Gr.grow {w w' : World} (h : Gr w w') (os : Array Obj) : Gr w (Sort.grow w' os) := by
  obtain ⟨q, os1, rfl⟩ := h
  exact ⟨q, os1 ++ os, by rw [Sort.grow_grow]⟩
theorem Gr.trans {a b c : World} (h : Gr a b) (k : Gr b c) : Gr a c := by
  obtain ⟨q, os, rfl⟩ := k
  exact (h.drewN q).grow os
theorem Gr.bel {w w' : World} (h : Gr w w') : Below w.heap.size w w' := by
  obtain ⟨q, os, rfl⟩ := h
  refine ⟨rfl, rfl, rfl, by simp [Sort.grow, World.drewN], fun k hk => ?_⟩
  simp only [Sort.grow, World.drewN]
  rw [Array.getElem?_append_left (by simpa using hk)]

def keyN (U : List So) (n : ByteArray) : Int := (((ps U n).headD default).o : Int) * 64 + (((ps U n).headD default).k : Int)
theorem entK : ∀ args w, (callFunc 39 args).run Try.prog w = .ok (.enter 39 args) w := enters_of Try.func39 (by kernel_rfl) rfl
theorem entC : ∀ args w, (callFunc 52 args).run Try.prog w = .ok (.enter 52 args) w := enters_of Try.func52 (by kernel_rfl) rfl

set_option maxHeartbeats 2000000 in
set_option maxRecDepth 20000 in
theorem key_any {w : World} {B b X : Nat} {U : List So} {F : ByteArray → Option (Ou × Value)} (h : MG w B b U F) (hX : w.cell? ⟨X, 0, none⟩ = some (.map (some b))) (n : ByteArray) (hn : ps U n ≠ []) (hs : n.size ≤ maxLen) (hb : ∀ x ∈ U, x.o ≤ 1048577 ∧ x.k ≤ 1048577) :
    Calls Try.prog 39 #[.string n, .pointer (some ⟨X, 0, none⟩)] w fun e w' => e = .returned (.int .i64 (keyN U n)) ∧ Gr w w' := by
  rcases h.getE n with ⟨_, h2⟩ | ⟨v, hF, _, ho⟩
  · exact absurd h2 hn
  · obtain ⟨ao, cap, hv, hcap, _, _, hc⟩ := ho.any encP_len
    subst hv
    rcases hc with hc | ⟨g, hg, _, hgl, hc⟩
    · exact absurd hc hn
    · subst hg
      obtain ⟨x, r, hx⟩ : ∃ x r, ps U n = x :: r := by
        cases e : ps U n with
        | nil => exact absurd e hn
        | cons x r => exact ⟨x, r, rfl⟩
      have hxU : x ∈ U := (ps_mem.1 (show x ∈ ps U n by rw [hx]; simp)).1
      obtain ⟨b1, b2⟩ := hb x hxU
      have c0 : w.cell? ⟨g, 0, none⟩ = some (.int .i64 x.o) := by
        have := hc 0 (by rw [hx]; simp) 0 (by decide)
        simpa [hx, encP] using this
      have c1 : w.cell? ⟨g, 1, none⟩ = some (.int .i64 x.k) := by
        have := hc 0 (by rw [hx]; simp) 1 (by decide)
        simpa [hx, encP] using this
      have HK : Hid (keyN U n = (x.o : Int) * 64 + (x.k : Int)) := ⟨by unfold keyN; rw [hx]; rfl⟩
      have hl1 : 0 < (ps U n).length := by rw [hx]; simp
      have HM : Hid _ := ⟨h.mp⟩
      have HG : Hid (∀ o : Obj, Gr w (w.alloc o)) := ⟨fun o => (Gr.refl w).alloc o⟩
      clear h ho hc hx hn hb hxU hcap
      have hfd := field1
      generalize keyN U n = K at *
      generalize (ps U n).length = pl at *
      obtain ⟨xo, xk, xs⟩ := x
      dsimp only at *
      go_enter Try.func39, Try.ntmps39
      go_wp2_with (at_lookup; refine wpList_lookV rfl _ _ 61 rfl 89 Try.underlying61 (zeroM _) rfl HM.out rfl hs ?_; rw [hF]; dsimp only [mval, Option.getD])
      go_ret
      exact ⟨ret_i64 (by rw [HK.out]), HG.out _⟩

set_option maxHeartbeats 2000000 in
set_option maxRecDepth 20000 in
theorem cmp19_any {w : World} {B b X Y : Nat} {U : List So} {F : ByteArray → Option (Ou × Value)} (h : MG w B b U F) (hX : w.cell? ⟨X, 0, none⟩ = some (.map (some b))) (hY : w.cell? ⟨Y, 0, none⟩ = some (.func (.func 39) #[] #[.pointer (some ⟨X, 0, none⟩)])) (n m : ByteArray) (hn : ps U n ≠ []) (hm : ps U m ≠ []) (hs : n.size ≤ maxLen) (hs2 : m.size ≤ maxLen) (hb : ∀ x ∈ U, x.o ≤ 1048577 ∧ x.k ≤ 1048577) :
    Calls Try.prog 52 #[.string n, .string m, .pointer (some ⟨Y, 0, none⟩)] w fun e w' => e = .returned (.int .i64 (cmpI (keyN U n) (keyN U m))) ∧ Gr w w' := by
  have HA : Hid (∀ W, Gr w W → Calls Try.prog 39 #[.string n, .pointer (some ⟨X, 0, none⟩)] W fun e w' => e = .returned (.int .i64 (keyN U n)) ∧ Gr W w') := ⟨fun W g => key_any (h.bel g.bel) (up_c hX g.bel) n hn hs hb⟩
  have HB : Hid (∀ W, Gr w W → Calls Try.prog 39 #[.string m, .pointer (some ⟨X, 0, none⟩)] W fun e w' => e = .returned (.int .i64 (keyN U m)) ∧ Gr W w') := ⟨fun W g => key_any (h.bel g.bel) (up_c hX g.bel) m hm hs2 hb⟩
  have HY : Hid (∀ W, Gr w W → W.cell? ⟨Y, 0, none⟩ = some (.func (.func 39) #[] #[.pointer (some ⟨X, 0, none⟩)])) := ⟨fun W g => up_c hY g.bel⟩
  have HC : Hid (∀ x y W, _) := ⟨compare_any⟩
  have G0 : Gr w w := Gr.refl w
  have HG : Hid _ := ⟨G0⟩
  have hent := entK
  clear h G0 hX hn hm hs hs2 hb
  generalize keyN U n = kn at *
  generalize keyN U m = km at *
  go_enter Try.func52, Try.ntmps52
  go_upto_region 1 with (fail)
  have y0 : w.drew.cell? ⟨Y, 0, none⟩ = some (.func (.func 39) #[] #[.pointer (some ⟨X, 0, none⟩)]) := HY.out w HG.out
  go_region_held3 (fun x => x.cell? ⟨Y, 0, none⟩ = some (.func (.func 39) #[] #[.pointer (some ⟨X, 0, none⟩)])) (first | (with_reducible assumption))
    (first
      | (go_at_fn 39; (with_reducible refine (HA.out _ HG.out.drew).mono ?_); rintro e w1 ⟨rfl, hg1⟩; have HG1 : Hid (Gr w w1) := ⟨HG.out.drew.trans hg1⟩; have y1 := HY.out _ HG1.out; clear hg1)
      | (go_at_fn 39; (with_reducible refine (HB.out _ HG1.out).mono ?_); rintro e w2 ⟨rfl, hg2⟩; have HG2 : Hid (Gr w w2) := ⟨HG1.out.trans hg2⟩; have y2 := HY.out _ HG2.out; clear hg2)
      | (go_at_call 53; (with_reducible refine (HC.out _ _ _).mono ?_); rintro e w' ⟨rfl, hw'⟩; subst w'))
  all_goals (go_wp2; go_ret; exact ⟨rfl, HG2.out⟩)
end Go.Proofs.Ytojiomkinhnodaa
