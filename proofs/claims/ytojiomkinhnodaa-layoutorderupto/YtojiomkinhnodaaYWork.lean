/- newWork. -/
import Derived.Test.YtojiomkinhnodaaYAt
namespace Go.Proofs.Ytojiomkinhnodaa
open Go.ChangeShapes Go.WideShapes Go.ChangeAt Go.RowKit Go.Maps
set_option linter.unusedVariables false
set_option linter.unusedSimpArgs false

def NEnd (ao : Option Addr) (c : Nat) (l : List Fl) (b : Nat) (w : World) (e : Ending) (w' : World) : Prop :=
  ∃ p va vn vc bs, e = .returned (.pointer (some ⟨p, 0, none⟩)) ∧ w.heap.size ≤ p ∧ Bk w' p 95 #[.slice ao l.length c, .map (some b), .slice va vn vc, .slice none 0 0, .int .i64 4096] ∧ AT w' w.heap.size (.slice va vn vc) bs (l.map (·.secs.length)) (fun _ _ => -1) ∧ Below w.heap.size w w'
theorem neg_step (j t : Nat) : (if t < j + 1 then (-1 : Int) else 0) = if t = j then -1 else if t < j then -1 else 0 := by
  by_cases e : t = j
  · rw [if_pos (by omega), if_pos e]
  · by_cases e2 : t < j
    · rw [if_pos (by omega), if_neg e, if_pos e2]
    · rw [if_neg (by omega), if_neg e, if_neg e2]
theorem infoSl : (Try.prog.info? 48).map (fun i => (i.zero, i.size, i.bytes)) = some (some (.slice none 0 0), 1, 24) := by kernel_rfl
/-- The state of newWork. -/
structure NW (w wr : World) (B p b n c : Nat) (ao : Option Addr) (va : Option Addr) (vn vc : Nat) (bs : Nat → Nat) (ns : List Nat) : Prop where
  k : Bk wr p 95 #[.slice ao n c, .map (some b), .slice va vn vc, .slice none 0 0, .int .i64 4096]
  a : AT wr B (.slice va vn vc) bs ns (fun _ _ => -1)
  b : Below B w wr
theorem NW.bel {w wr v : World} {B p b n c : Nat} {ao va : Option Addr} {vn vc : Nat} {bs : Nat → Nat} {ns : List Nat} (h : NW w wr B p b n c ao va vn vc bs ns) (hB : w.heap.size = B) (g : Below wr.heap.size wr v) : NW w v B p b n c ao va vn vc bs ns :=
  ⟨h.k.bel g h.k.lt, h.a.bel g, bt2 hB h.b g⟩
theorem NW.setQ {w wr : World} {B p b n c : Nat} {ao va : Option Addr} {vn vc : Nat} {bs : Nat → Nat} {ns : List Nat} (h : NW w wr B p b n c ao va vn vc bs ns) {q m : Nat} {g : Nat → Int} (hq : Bk wr q 3 (ints m g)) (hqB : B ≤ q) (hne : ∀ i, i < ns.length → bs i ≠ q) (j : Nat) (V : Value) : NW w (wr.setCell ⟨q, j, none⟩ V) B p b n c ao va vn vc bs ns :=
  ⟨h.k.setCo _ _ (fun e => by
      have e2 : p = q := e
      subst e2
      have := h.k.hp.symm.trans hq.hp
      injection this with this
      injection this with _ e3 _
      exact absurd e3 (by decide)), h.a.far (grown_setC _ _ _ _) (fun x hx e => own_ne_bk h.a.row hq (by decide) (hx.trans e.symm)) (fun i hi e => hne i hi (by injection e with e; exact e.symm)), bel_setC h.b _ hqB _⟩

set_option maxHeartbeats 16000000 in
set_option maxRecDepth 20000 in
theorem newWork_any (ao : Option Addr) (c : Nat) (l : List Fl) (b : Nat) (w : World) (hb : FlsB l) (hin : Fls w ao l) : Calls Try.prog 19 #[.slice ao l.length c, .map (some b)] w fun e w' => NEnd ao c l b w e w' := by
  have HIN : Hid _ := ⟨hin⟩
  have HBD : Hid _ := ⟨hb.each⟩
  have hln := hb.n
  clear hin hb
  obtain ⟨B, hB⟩ : ∃ B, w.heap.size = B := ⟨_, rfl⟩
  have H0 : Hid (NW w (w.alloc (.cells #[.slice ao l.length c, .map (some b), .slice none 0 0, .slice none 0 0, .int .i64 4096] 95)) B B b l.length c ao none 0 0 (fun _ => 0) []) := ⟨by rw [← hB]; exact Bk.new _ _ _, AT.nil _ _ _ _, by rw [← hB]; exact (Below.refl _ _).alloc (Nat.le_refl _) _⟩
  go_enter Try.func19, Try.ntmps19
  go_upto_region 2 with (fail)
  generalize w.alloc (.cells #[.slice ao l.length c, .map (some b), .slice none 0 0, .slice none 0 0, .int .i64 4096] 95) = w0 at *
  go_upto_region 3 with (fail)
  go_loopw [16] (fun i wr => ∃ k : Nat, k ≤ l.length ∧ i = .int .i64 k ∧ Hid (∃ va vn vc bs, NW w wr B B b l.length c ao va vn vc bs ((l.take k).map (·.secs.length)))) (fun i _ => l.length - (intOf i).toNat)
  case atStart => exact ⟨0, by omega, rfl, ⟨_, _, _, _, H0.out⟩⟩
  case round =>
    obtain ⟨k, hk, rfl, HG⟩ := hrel
    obtain ⟨va, vn, vc, bs, hnw⟩ := HG.out
    have HN : Hid _ := ⟨hnw⟩
    have hbs := hnw.b.size
    clear hnw HG
    by_cases hlt : k < l.length
    · obtain ⟨b1, off, rfl, hcell⟩ : ∃ b off, ao = some ⟨b, off, none⟩ ∧ ∀ i, i < l.length → FlAt wr b (off + i * 2) (l.getD i Fl.zero) := by
        rcases HIN.out.below HN.out.b (by omega) with h | h
        · subst h; simp at hlt
        · exact h
      obtain ⟨c0, c1, _⟩ := hcell k hlt
      have hget : l.getD k Fl.zero = l[k] := by simp [hlt]
      rw [hget] at c0 c1
      have HTK : Hid ((l.take (k + 1)).map (·.secs.length) = (l.take k).map (·.secs.length) ++ [l[k].secs.length]) := ⟨by rw [List.take_succ_eq_append_getElem hlt, List.map_append]; rfl⟩
      have hns := (HBD.out _ (List.getElem_mem hlt)).ns
      have hnl : ((l.take k).map (·.secs.length)).length = k := by simp; omega
      generalize hl1 : (l.take (k + 1)).map (·.secs.length) = ns1 at HTK
      have HL1 : Hid _ := ⟨hl1⟩
      clear hcell hget hl1
      obtain ⟨f, hf⟩ : ∃ f, f = l[k] := ⟨_, rfl⟩
      rw [← hf] at c0 c1 HTK hns
      clear hf
      generalize (l.take k).map (·.secs.length) = ns at *
      obtain ⟨sa, sc, secs, ya, yc, syms⟩ := f
      dsimp only [Fl.val] at *
      have HV0 : Hid (NW w (wr.alloc (.cells #[.slice sa secs.length sc, .slice ya syms.length yc] 41)) B B b l.length c (some ⟨b1, off, none⟩) va vn vc bs ns) := ⟨HN.out.bel hB ((Below.refl _ _).alloc (Nat.le_refl _) _)⟩
      have s0 : (wr.alloc (.cells #[.slice sa secs.length sc, .slice ya syms.length yc] 41)).cell? ⟨wr.heap.size, 0, none⟩ = some (.slice sa secs.length sc) := (Bk.new _ _ _).cell 0 rfl
      go_upto_region 5 with (fail)
      clear c0 c1 HN
      generalize wr.alloc (.cells #[.slice sa secs.length sc, .slice ya syms.length yc] 41) = v0 at *
      have hmk := makeI secs.length (by omega) v0
      have HQ : Hid (Bk (v0.alloc (.cells (ints secs.length (fun _ => 0)) 3)) v0.heap.size 3 (ints secs.length (fun _ => 0))) := ⟨Bk.new _ _ _⟩
      have HV1 : Hid (NW w (v0.alloc (.cells (ints secs.length (fun _ => 0)) 3)) B B b l.length c (some ⟨b1, off, none⟩) va vn vc bs ns) := ⟨HV0.out.bel hB ((Below.refl _ _).alloc (Nat.le_refl _) _)⟩
      go_upto_region 6 with (fail)
      obtain ⟨q, hq⟩ : ∃ q, v0.heap.size = q := ⟨_, rfl⟩
      have HNE : Hid (B ≤ q ∧ ∀ i, i < ns.length → bs i ≠ q) := ⟨by have := HV0.out.b.size; omega, fun i hi => by have := (HV0.out.a.bk i hi).2.lt; omega⟩
      rw [hq] at HQ ⊢
      clear hmk s0 HV0 hq
      generalize v0.alloc (.cells (ints secs.length (fun _ => 0)) 3) = v1 at *
      go_upto_region 7 with (fail)
      go_loopw [26] (fun i wr => ∃ j : Nat, j ≤ secs.length ∧ i = .int .i64 j ∧ Hid (Bk wr q 3 (ints secs.length (fun t => if t < j then -1 else 0)) ∧ NW w wr B B b l.length c (some ⟨b1, off, none⟩) va vn vc bs ns)) (fun i _ => secs.length - (intOf i).toNat)
      case atStart => exact ⟨0, by omega, rfl, ⟨by simpa using HQ.out, HV1.out⟩⟩
      case round =>
        obtain ⟨j, hj, rfl, HV⟩ := hrel
        by_cases hlj : j < secs.length
        · have d0 := HV.out.1.cell j (ints_at _ _ j hlj)
          have df := HV.out.1.fro j
          rw [if_neg (by omega)] at d0
          go_upto_region 10 with (fail)
          have HX : Hid (Bk (wr.setCell ⟨q, j, none⟩ (.int .i64 (-1))) q 3 (ints secs.length (fun t => if t < j + 1 then -1 else 0)) ∧ NW w (wr.setCell ⟨q, j, none⟩ (.int .i64 (-1))) B B b l.length c (some ⟨b1, off, none⟩) va vn vc bs ns) := by
            refine ⟨?_, HV.out.2.setQ HV.out.1 HNE.out.1 HNE.out.2 _ _⟩
            have := HV.out.1.setC j (.int .i64 (-1))
            rw [ints_set] at this
            rwa [ints_congr secs.length (fun t => if t < j + 1 then -1 else 0) (fun t => if t = j then -1 else if t < j then -1 else 0) (fun t _ => neg_step j t)]
          clear d0 df HV
          go_wp2
          go_roundw
          case rel => exact ⟨j + 1, hlj, by go_num, HX⟩
          case measure => simp [intOf]; omega
        · obtain rfl : j = secs.length := by omega
          obtain ⟨v2, hv2⟩ : ∃ v, v = wr := ⟨_, rfl⟩
          rw [← hv2] at HV ⊢
          clear hv2
          have HV2 : Hid (Bk v2 q 3 (ints secs.length (fun _ => -1)) ∧ NW w v2 B B b l.length c (some ⟨b1, off, none⟩) va vn vc bs ns) := ⟨by rw [ints_congr secs.length (fun _ => -1) (fun t => if t < secs.length then -1 else 0) (fun t h => by rw [if_pos h])]; exact HV.out.1, HV.out.2⟩
          clear HV
          have n2 := HV2.out.2.k.cell 2 rfl
          go_upto_region 12 with (at_builtin; refine append_R rfl _ _ 25 (.slice none 0 0) 24 rfl Try.underlying25 infoSl (by kernel_rfl) (by decide) encV_len encV_one rfl HV2.out.2.a.row ⟨some ⟨q, 0, none⟩, secs.length, secs.length⟩ rfl (by simp) rfl (by simp [rowV]; unfold maxLen; omega) (by simp [rowV]; omega) (by have := HV2.out.2.b.size; omega) ?_; intro rv w7 hr7 hs7; obtain ⟨xa, xn, xc, hxv⟩ := own_sl hr7; subst hxv; have HR7 : Hid _ := ⟨hr7⟩; have HS7 : Hid _ := ⟨hs7⟩; clear hr7 hs7; have HK7 : Hid _ := ⟨HV2.out.2.k.turn HS7.out.turn (fun e => own_ne_bk HV2.out.2.a.row HV2.out.2.k (by decide) e)⟩; have n7 := HK7.out.cell 2 rfl; have nf7 := HK7.out.fro 2; go_frame)
          have HAT : Hid (AT w7 B (.slice xa xn xc) (fun i => if i = ns.length then q else bs i) (ns ++ [secs.length]) (fun i => if i = ns.length then fun _ => -1 else fun _ => -1)) := ⟨HV2.out.2.a.put HV2.out.1 HNE.out.1 HNE.out.2 HS7.out HR7.out⟩
          have HFIN : Hid (NW w (w7.setCell ⟨B, 2, none⟩ (.slice xa xn xc)) B B b l.length c (some ⟨b1, off, none⟩) xa xn xc (fun i => if i = ns.length then q else bs i) ns1) := ⟨HK7.out.setC 2 _, by
            rw [HTK.out]
            refine AT.congr (HAT.out.far (grown_setC _ _ _ _) (fun x hx e => own_ne_bk HAT.out.row HK7.out (by decide) (hx.trans e.symm)) (fun i hi e => ?_)) (fun i k _ _ => by split <;> rfl)
            have h1 := (HAT.out.bk i hi).2
            injection e with e
            rw [← e] at h1
            have := h1.hp.symm.trans HK7.out.hp
            injection this with this
            injection this with _ e3 _
            exact absurd e3 (by decide), bel_setC (HV2.out.2.b.trans (HS7.out.turn.below (by have := HV2.out.2.b.size; omega) (fun q hq => (own_cells2 HV2.out.2.a.row q hq).1))) _ (Nat.le_refl _) _⟩
          clear n2 n7 nf7 HK7 HR7 HS7 HAT
          go_wp2
          go_roundw
          case rel => exact ⟨k + 1, hlt, by go_num, ⟨_, _, _, _, by rw [HL1.out]; exact HFIN.out⟩⟩
          case measure => simp [intOf]; omega
    · obtain rfl : k = l.length := by omega
      rw [List.take_of_length_le (Nat.le_refl _)] at HN
      go_wp2
      go_ret
      exact ⟨B, va, vn, vc, bs, rfl, by omega, HN.out.k, by first | exact HN.out.a | (rw [hB]; exact HN.out.a), by first | exact HN.out.b | (rw [hB]; exact HN.out.b)⟩
end Go.Proofs.Ytojiomkinhnodaa
