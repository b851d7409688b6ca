/- Units, cut into pieces: the program's pieces. -/
import Derived.Test.YtbhdledlahbokaaLTp
namespace Go.Proofs.Ytbhdledlahbokaa
open Go.ChangeShapes Go.WideShapes Go.ChangeAt Go.RowKit Go.Conc
set_option linter.unusedVariables false
set_option linter.unusedSimpArgs false

/-- Slices of the call's own. -/
def OwnV (w : World) (base : Nat) (v : Value) (l : List Value) : Prop := w.ownsRow base 30 1 v l.length l
theorem OwnV.nil (w : World) (base : Nat) : OwnV w base (.slice none 0 0) [] := World.ownsRow_nil _ _ _ _
theorem OwnV.bel {w w' : World} {base : Nat} {v : Value} {l : List Value} (h : OwnV w base v l) (hb : Below w.heap.size w w') : OwnV w' base v l :=
  World.ownsRow.kept (row := none) h ⟨hb.os, hb.tape, hb.output, hb.size, fun j hj _ => hb.block j hj⟩ (by cases hv : v.ownBlock <;> simp)
theorem OwnV.sl {w : World} {base : Nat} {v : Value} {l : List Value} (h : OwnV w base v l) : ∃ ao c, v = .slice ao l.length c := by
  rcases h.2 with ⟨rfl, e⟩ | ⟨g, cap, cur, rfl, _⟩
  · exact ⟨none, 0, by rw [e]⟩
  · exact ⟨_, cap, rfl⟩
theorem OwnV.at {w : World} {base n c : Nat} {ao : Option Addr} {l : List Value} (h : OwnV w base (.slice ao n c) l) (hne : 1 ≤ l.length) : ∃ g, ao = some ⟨g, 0, none⟩ ∧ ∀ i, i < l.length → w.cell? ⟨g, 0 + i, none⟩ = some (l.getD i undef) := by
  rcases h.2 with ⟨_, e⟩ | ⟨g, cap, cur, hv, _⟩
  · omega
  · cases hv
    refine ⟨g, rfl, fun i hi => ?_⟩
    have := World.ownsRow.cells (g := g) h rfl i (l.getD i undef) (by simp [hi])
    rwa [caddr_add] at this
theorem infoB : (Try.prog.info? 30).map (fun i => (i.zero, i.size, i.bytes)) = some (some (.slice none 0 0), 1, 24) := by kernel_rfl
theorem append_val {ops : Array Oper} {rest : List Oper} {o : Oper} {a : Act} {Q : Exit → Act → World → Prop} (w : World) (hgd : o.guard = none) (s x : Operand)
    (ho : o.op = .call { callee := .builtin .append, args := #[s, x], argTypes := #[85, 85] })
    (base : Nat) (v : Value) (l : List Value) (hs : a.eval s = v) (hown : OwnV w base v l) (u : Value) (h1 : u.oneCell' = true) (hx : a.eval x = .slice (some ⟨w.heap.size, 0, none⟩) 1 1)
    (hn : l.length ≤ 1000000000) (hbase : base ≤ w.heap.size)
    (h : ∀ v' w', OwnV w' base v' (l ++ [u]) → Below base w w' → wpList Try.prog ops Q rest (a.put o.dst v') w') :
    wpList Try.prog ops Q (o :: rest) a (w.alloc (.cells #[u] 30)) := by
  obtain ⟨i0, hi, hz0, hz1, hz2⟩ := info_parts infoB
  have hb := Bk.new w #[u] 30
  refine wpList_append_own_at _ hgd s x 85 ho base 30 i0 _ 1 24 Try.underlying85 hi hz0 hz1 hz2 rfl (by decide) _ l.length _ hs (hown.bel ((Below.refl _ _).alloc (Nat.le_refl _) _)) ⟨w.heap.size, 0, none⟩ 1 1 [u] hx (by simp) ?_ ?_ (by unfold maxLen; omega) (by omega) (by simp; omega) ?_
  · intro j y hj
    rw [caddr_add]
    exact hb.cell _ (by simpa using hj)
  · intro y hy
    simp at hy
    subst hy
    exact h1
  · intro v' w' hown' hgrow hnn hbk
    refine h v' w' ?_ (((Below.refl base w).alloc hbase _).grown hgrow (by simp; omega) (own_block hown))
    unfold OwnV
    simpa using hown'

/-- Where the k-th of some units begins. -/
def offU (ps : List Pg) (k : Nat) : Nat := ((ps.take k).flatMap unitR).length
theorem offU_next (ps : List Pg) (k : Nat) (hk : k < ps.length) : offU ps (k + 1) = offU ps k + (unitR (ps.getD k pg0)).length := by
  unfold offU
  rw [take_at ps pg0 k hk]
  simp
theorem offU_all (ps : List Pg) : offU ps ps.length = (ps.flatMap unitR).length := by unfold offU; rw [List.take_length]
theorem offU_le (ps : List Pg) (k : Nat) : offU ps k ≤ (ps.flatMap unitR).length := by
  unfold offU
  have : ps.flatMap unitR = (ps.take k).flatMap unitR ++ (ps.drop k).flatMap unitR := by rw [← List.flatMap_append, List.take_append_drop]
  rw [this, List.length_append]; omega
theorem at_part {ps : List Pg} {k : Nat} (hk : k < ps.length) (i : Nat) (hi : i < (unitR (ps.getD k pg0)).length) : (ps.flatMap unitR).getD (offU ps k + i) 0 = (unitR (ps.getD k pg0)).getD i 0 := by
  have e : ps.flatMap unitR = (ps.take k).flatMap unitR ++ (unitR (ps.getD k pg0) ++ (ps.drop (k + 1)).flatMap unitR) := by
    have h1 : ps = ps.take k ++ ps.getD k pg0 :: ps.drop (k + 1) := by
      rw [show ps.getD k pg0 = ps[k] by simp [hk], ← List.drop_eq_getElem_cons hk, List.take_append_drop]
    generalize ps.getD k pg0 = p at *
    conv => lhs; rw [h1]
    simp
  rw [e]
  unfold offU
  rw [List.getD_eq_getElem?_getD, List.getElem?_append_right (by omega), Nat.add_sub_cancel_left, List.getElem?_append_left hi]
  simp only [List.getD_eq_getElem?_getD]
/-- The k-th piece. -/
def pcU (g C : Nat) (ps : List Pg) (k : Nat) : Value := .slice (some ⟨g, offU ps k, none⟩) (unitR (ps.getD k pg0)).length (C - offU ps k)
def pcsU (g C : Nat) (ps : List Pg) (n : Nat) : List Value := (List.range n).map (pcU g C ps)
theorem pcsU_next (g C : Nat) (ps : List Pg) (n : Nat) : pcsU g C ps (n + 1) = pcsU g C ps n ++ [pcU g C ps n] := by simp [pcsU, List.range_succ]
theorem pcsU_len (g C : Nat) (ps : List Pg) (n : Nat) : (pcsU g C ps n).length = n := by simp [pcsU]
/-- The first number of a unit. -/
theorem unit_head (p : Pg) : ∃ r, unitR p = pl (((unitR p).length : Int) - 4) 4 ++ r := by
  refine ⟨[5, 0, 8, 0] ++ (pl ((behindR p.files).length : Int) 4 ++ behindR p.files) ++ cmdR p.seqs, ?_⟩
  have hl : ((unitR p).length : Int) - 4 = 8 + ((behindR p.files).length : Int) + ((cmdR p.seqs).length : Int) := by
    unfold unitR
    rw [List.length_append, headR_len]; omega
  rw [hl]
  unfold unitR headR
  simp only [List.append_assoc]

set_option maxRecDepth 20000 in
set_option maxHeartbeats 4000000 in
theorem pieces_ok (ps : List Pg) (hps : ∀ p ∈ ps, wriE p = 0) (g L C : Nat) (hL : (ps.flatMap unitR).length = L) (hsh : L ≤ 1048576) (hC : L ≤ C) (hT : C ≤ 9223372036854775807) (w : World) (hr : ∀ i, i < L → w.cell? ⟨g, 0 + i, none⟩ = some (.int .u8 ((ps.flatMap unitR).getD i 0))) :
    Calls Try.prog 36 #[.slice (some ⟨g, 0, none⟩) L C] w fun e w' => ∃ v, e = .returned v ∧ OwnV w' w.heap.size v (pcsU g C ps ps.length) ∧ Below w.heap.size w w' := by
  have hn : ps.length ≤ 1048576 := by
    have : ∀ l : List Pg, l.length ≤ (l.flatMap unitR).length := by
      intro l
      induction l with
      | nil => simp
      | cons p l ih => have := unit_pos p; simp only [List.flatMap_cons, List.length_append, List.length_cons]; omega
    have := this ps
    omega
  have HGet : Hid (∀ k, k < ps.length → ∀ W a c, (a = offU ps k) → Below w.heap.size w W → Calls Try.prog 54 #[.slice (some ⟨g, a, none⟩) (L - offU ps k) c, .int .i64 0, .int .i64 4, .bool false] W fun e w' => e = .returned (.tuple #[.int .i64 (((unitR (ps.getD k pg0)).length : Int) - 4), .int .i64 0]) ∧ Below W.heap.size W w') := ⟨fun k hk W a c ha hW => by
    subst ha
    have hm : ps.getD k pg0 ∈ ps := by simp [hk]
    have hby : ByL (ps.flatMap unitR) := fun x hx => by
      obtain ⟨p, hp, hx⟩ := List.mem_flatMap.1 hx
      exact by_unit (wri_ok (hps p hp)).1 x hx
    have hlen := offU_next ps k hk
    have hle := offU_le ps (k + 1)
    have hpos := unit_pos (ps.getD k pg0)
    have R := get_ok (some ⟨g, offU ps k, none⟩) (L - offU ps k) c 0 4 false (fun i => (ps.flatMap unitR).getD (offU ps k + i) 0) W (.inr ⟨g, offU ps k, rfl, fun i hi => by
      have := up_belL (hr (offU ps k + i) (by omega)) hW
      rwa [Nat.zero_add] at this⟩) (fun i => getD_byte hby _) (by omega) (by omega) (by omega)
    have hsm := (wri_ok (hps _ hm)).2
    have hv : gval (fun i => (ps.flatMap unitR).getD (offU ps k + i) 0) 0 4 false = ((unitR (ps.getD k pg0)).length : Int) - 4 := by
      unfold gval
      rw [if_neg (by decide), bacc_pl (((unitR (ps.getD k pg0)).length : Int) - 4) _ 0 4 (fun i hi => by
        rw [pl_len] at hi
        rw [Nat.zero_add, at_part hk i (by omega)]
        obtain ⟨r, hr⟩ := unit_head (ps.getD k pg0)
        conv => lhs; rw [hr]
        rw [List.getD_eq_getElem?_getD, List.getElem?_append_left (by rw [pl_len]; exact hi)]
        simp only [List.getD_eq_getElem?_getD])]
      unfold wrap64
      rw [show (2 : Int) ^ (8 * 4) = 4294967296 by decide]
      omega
    rw [hv] at R
    exact R⟩
  have HN : Hid (∀ k, k < ps.length → offU ps (k + 1) = offU ps k + (unitR (ps.getD k pg0)).length ∧ offU ps (k + 1) ≤ L ∧ 12 ≤ (unitR (ps.getD k pg0)).length) := ⟨fun k hk => ⟨offU_next ps k hk, by rw [← hL]; exact offU_le _ _, unit_pos _⟩⟩
  have HE : Hid (offU ps ps.length = L) := ⟨by rw [offU_all, hL]⟩
  have HLe : Hid (∀ k, offU ps k ≤ L) := ⟨fun k => by rw [← hL]; exact offU_le _ _⟩
  have h00 : offU ps 0 = 0 := by simp [offU]
  have HLt : Hid (∀ k, k ≤ ps.length → L - offU ps k = 0 → k = ps.length) := ⟨fun k hk h => by
    by_cases hkl : k < ps.length
    · have := HN.out k hkl; omega
    · omega⟩
  clear hr hps hL
  have HSt : Hid ((∃ a : Nat, Value.slice (some ⟨g, 0, none⟩) L C = .slice (some ⟨g, a, none⟩) (L - offU ps 0) (C - offU ps 0) ∧ (a = offU ps 0 ∨ L - offU ps 0 = 0))) := ⟨⟨0, by rw [h00]; rfl, .inl h00.symm⟩⟩
  clear h00
  go_enter Try.func36, Try.ntmps36
  go_wp2
  go_loopw [0, 3] (fun bv lv wr => ∃ k : Nat, k ≤ ps.length ∧ (∃ a : Nat, bv = .slice (some ⟨g, a, none⟩) (L - offU ps k) (C - offU ps k) ∧ (a = offU ps k ∨ L - offU ps k = 0)) ∧ Hid (OwnV wr w.heap.size lv (pcsU g C ps k) ∧ Below w.heap.size w wr)) (fun bv _ _ => (match bv with | .slice _ n _ => n | _ => 0))
  case atStart => exact ⟨0, by omega, HSt.out, ⟨OwnV.nil _ _, Below.refl _ _⟩⟩
  case round =>
    clear HSt
    obtain ⟨k, hk, ⟨a, rfl, ha⟩, HW⟩ := hrel
    by_cases hlt : k < ps.length
    · obtain ⟨hn1, hn2, hn3⟩ := HN.out k hlt
      obtain rfl : a = offU ps k := by omega
      have HG : Hid _ := ⟨HGet.out k hlt wr (offU ps k) (C - offU ps k) rfl HW.out.2⟩
      obtain ⟨la, lc, hlv⟩ := HW.out.1.sl
      have hpl := pcsU_len g C ps k
      rw [hpl] at hlv
      subst hlv
      have HP : Hid (pcsU g C ps (k + 1) = pcsU g C ps k ++ [pcU g C ps k]) := ⟨pcsU_next g C ps k⟩
      have HU : Hid (pcU g C ps k = .slice (some ⟨g, offU ps k, none⟩) (unitR (ps.getD k pg0)).length (C - offU ps k)) := ⟨rfl⟩
      have HX : Hid (offU ps (k + 1) = offU ps k + (unitR (ps.getD k pg0)).length) := ⟨hn1⟩
      rw [hn1] at hn2
      have hk0 : offU ps k ≤ L := HLe.out k
      obtain ⟨P1, hP1⟩ : ∃ P1, pcsU g C ps (k + 1) = P1 := ⟨_, rfl⟩
      rw [hP1] at HP
      have HP1 : Hid _ := ⟨hP1⟩
      clear hP1
      generalize pcsU g C ps k = P0 at *
      generalize pcU g C ps k = PU at *
      generalize (unitR (ps.getD k pg0)).length = u at *
      have hRo : L - offU ps k = L - offU ps k := rfl
      generalize hR : L - offU ps k = R at *
      generalize hM : C - offU ps k = M at *
      generalize hO : offU ps k = o at *
      have s0 : (0 : Int) < (R : Int) := by omega
      have s1 : (0 : Int) ≤ (u : Int) := by omega
      have s2 : (u : Int) ≤ (M : Int) := by omega
      have s3 : (u : Int) ≤ (R : Int) := by omega
      have s4 : (R : Int) ≤ (M : Int) := by omega
      have s5 : wrap64 (4 + ((u : Int) - 4)) = (u : Int) := by unfold wrap64; omega
      have HNat : Hid (u ≤ R ∧ R ≤ M ∧ R = L - o ∧ M = C - o ∧ offU ps k = o ∧ o + u ≤ L ∧ L ≤ C) := ⟨by omega, by omega, hR.symm, hM.symm, hO, by omega, by omega⟩
      obtain rfl : PU = .slice (some ⟨g, o, none⟩) u M := HU.out
      have hkl : k ≤ 1000000000 := by omega
      have HPl : Hid (P0.length = k) := ⟨hpl⟩
      clear hpl hR hM hO hRo hn1 hn2 hk0 ha
      have HSx : Hid (Value.slice (some ⟨g, o + u, none⟩) (R - u) (M - u) = .slice (some ⟨g, o + u, none⟩) (L - offU ps (k + 1)) (C - offU ps (k + 1))) := ⟨by rw [HX.out]; have := HNat.out; congr 1 <;> omega⟩
      have HSz : Hid (u = R → L - offU ps (k + 1) = 0) := ⟨fun e => by rw [HX.out]; have := HNat.out; omega⟩
      have HSy : Hid (u = R → u = M → Value.slice (some ⟨g, o, none⟩) (R - u) (M - u) = .slice (some ⟨g, o, none⟩) (L - offU ps (k + 1)) (C - offU ps (k + 1))) := ⟨fun e1 e2 => by rw [HX.out]; have := HNat.out; congr 1 <;> omega⟩
      by_cases hRu : (u : Int) < (R : Int)
      · have s6 : (u : Int) < (M : Int) := by omega
        go_wp2_with (first
          | (go_at_call 54; (with_reducible refine HG.out.mono ?_); rintro e w3 ⟨he, hb3⟩; subst he; have HB3 : Hid (Below w.heap.size w w3) := ⟨HW.out.2.trans (hb3.mono HW.out.2.size)⟩; have HO3 : Hid _ := ⟨HW.out.1.bel hb3⟩; clear hb3)
          | (at_builtin; go_loud (refine append_val w3 rfl _ _ rfl w.heap.size (.slice la k lc) P0 rfl HO3.out (.slice (some ⟨g, o, none⟩) u M) rfl (by simp [Act.eval, Act.put]) (by rw [HPl.out]; exact hkl) HB3.out.size ?_); intro v4 w4 ho4 hb4; rw [← HP.out] at ho4; have HO4 : Hid _ := ⟨ho4⟩; have HB4 : Hid _ := ⟨HB3.out.trans hb4⟩; clear ho4 hb4))
        go_roundw
        case rel => exact ⟨k + 1, hlt, ⟨o + u, HSx.out, .inl HX.out.symm⟩, ⟨by rw [HP1.out]; exact HO4.out, HB4.out⟩⟩
        case measure => have := HNat.out; dsimp only; omega
      · obtain rfl : u = R := by omega
        have s7 : ¬ (u : Int) < (u : Int) := by omega
        by_cases hMu : (u : Int) < (M : Int)
        · go_wp2_with (first
            | (go_at_call 54; (with_reducible refine HG.out.mono ?_); rintro e w3 ⟨he, hb3⟩; subst he; have HB3 : Hid (Below w.heap.size w w3) := ⟨HW.out.2.trans (hb3.mono HW.out.2.size)⟩; have HO3 : Hid _ := ⟨HW.out.1.bel hb3⟩; clear hb3)
            | (at_builtin; go_loud (refine append_val w3 rfl _ _ rfl w.heap.size (.slice la k lc) P0 rfl HO3.out (.slice (some ⟨g, o, none⟩) u M) rfl (by simp [Act.eval, Act.put]) (by rw [HPl.out]; exact hkl) HB3.out.size ?_); intro v4 w4 ho4 hb4; rw [← HP.out] at ho4; have HO4 : Hid _ := ⟨ho4⟩; have HB4 : Hid _ := ⟨HB3.out.trans hb4⟩; clear ho4 hb4))
          go_roundw
          case rel => exact ⟨k + 1, hlt, ⟨o + u, (by have := HSx.out; rwa [Nat.sub_self] at this), .inl HX.out.symm⟩, ⟨by rw [HP1.out]; exact HO4.out, HB4.out⟩⟩
          case measure => have := HNat.out; dsimp only; omega
        · obtain rfl : u = M := by omega
          go_wp2_with (first
            | (go_at_call 54; (with_reducible refine HG.out.mono ?_); rintro e w3 ⟨he, hb3⟩; subst he; have HB3 : Hid (Below w.heap.size w w3) := ⟨HW.out.2.trans (hb3.mono HW.out.2.size)⟩; have HO3 : Hid _ := ⟨HW.out.1.bel hb3⟩; clear hb3)
            | (at_builtin; go_loud (refine append_val w3 rfl _ _ rfl w.heap.size (.slice la k lc) P0 rfl HO3.out (.slice (some ⟨g, o, none⟩) u u) rfl (by simp [Act.eval, Act.put]) (by rw [HPl.out]; exact hkl) HB3.out.size ?_); intro v4 w4 ho4 hb4; rw [← HP.out] at ho4; have HO4 : Hid _ := ⟨ho4⟩; have HB4 : Hid _ := ⟨HB3.out.trans hb4⟩; clear ho4 hb4))
          go_roundw
          case rel => exact ⟨k + 1, hlt, ⟨o, (by have := HSy.out trivial trivial; rwa [Nat.sub_self] at this), .inr (HSz.out trivial)⟩, ⟨by rw [HP1.out]; exact HO4.out, HB4.out⟩⟩
          case measure => have := HNat.out; dsimp only; omega
    · obtain rfl : k = ps.length := by omega
      rw [HE.out, Nat.sub_self] 
      go_wp2
      go_ret
      exact ⟨_, rfl, HW.out.1, HW.out.2⟩
end Go.Proofs.Ytbhdledlahbokaa
