/- byGroups. -/
import Derived.Test.YtojiomkinhnodaaYGrp
namespace Go.Proofs.Ytojiomkinhnodaa
open Go.ChangeShapes Go.WideShapes Go.ChangeAt Go.RowKit Go.Maps
set_option linter.unusedVariables false
set_option linter.unusedSimpArgs false

theorem OwnS.farS {w1 w2 : World} {b : Nat} {u : Value} {m : List ByteArray} {row : Option Nat} (h : OwnS w1 b u m) (hg : w1.grownBy w2 row) (hn : ∀ q, u.ownBlock = some q → row ≠ some q) : OwnS w2 b u m := own_far h hg hn
/-- Rows of names, by groups, in block g. -/
structure GS (b0 : Nat) (w : World) (g n : Nat) (vs : List Value) (G : Nat → List ByteArray) : Prop where
  bk : Bk w g 68 vs.toArray
  len : vs.length = n
  rows : ∀ k, k < n → OwnS w b0 (vs.getD k (.slice none 0 0)) (G k)
  apart : ∀ j k, j < n → k < n → j ≠ k → ∀ q, (vs.getD j (.slice none 0 0)).ownBlock = some q → (vs.getD k (.slice none 0 0)).ownBlock ≠ some q
theorem GS.bel {b0 : Nat} {w w' : World} {g n : Nat} {vs : List Value} {G : Nat → List ByteArray} (h : GS b0 w g n vs G) (hb : Below w.heap.size w w') : GS b0 w' g n vs G :=
  ⟨h.bk.bel hb h.bk.lt, h.len, fun k hk => own_bel (h.rows k hk) hb, h.apart⟩
theorem GS.congr {b0 : Nat} {w : World} {g n : Nat} {vs : List Value} {G G' : Nat → List ByteArray} (h : GS b0 w g n vs G) (e : ∀ k, k < n → G k = G' k) : GS b0 w g n vs G' :=
  ⟨h.bk, h.len, fun k hk => by rw [← e k hk]; exact h.rows k hk, h.apart⟩
theorem GS.cell {b0 : Nat} {w : World} {g n : Nat} {vs : List Value} {G : Nat → List ByteArray} (h : GS b0 w g n vs G) (q : Nat) (hq : q < n) : w.cell? ⟨g, q, none⟩ = some (vs.getD q (.slice none 0 0)) := by
  have hv : q < vs.length := by rw [h.len]; exact hq
  refine h.bk.cell q ?_
  simp [hv]
theorem GS.put {b0 : Nat} {w w1 : World} {g n : Nat} {vs : List Value} {G : Nat → List ByteArray} (h : GS b0 w g n vs G) {q : Nat} (hq : q < n) {v' : Value} {ys : List ByteArray} (ho : OwnS w1 b0 v' ys) (hs : Step w w1 (vs.getD q (.slice none 0 0)) v') :
    GS b0 (w1.setCell ⟨g, q, none⟩ v') g n (vs.set q v') (fun k' => if k' = q then ys else G k') := by
  have hK1 : Bk w1 g 68 vs.toArray := h.bk.turn hs.turn (fun e => own_ne_bk (h.rows q hq) h.bk (by decide) e)
  have hv : q < vs.length := by rw [h.len]; exact hq
  have eq1 : (vs.set q v').getD q (.slice none 0 0) = v' := by simp [hv]
  have eq2 : ∀ k, k ≠ q → (vs.set q v').getD k (.slice none 0 0) = vs.getD k (.slice none 0 0) := fun k hk => by
    simp [Ne.symm hk]
  have eqs : vs.toArray.setIfInBounds q v' = (vs.set q v').toArray := by simp
  refine ⟨by rw [← eqs]; exact hK1.setC q v', by simp [h.len], fun k hk2 => ?_, fun j k hj hk2 hjk p hp => ?_⟩
  · by_cases e : k = q
    · subst e
      rw [if_pos rfl, eq1]
      exact own_setC ho (own_ne_bk ho hK1 (by decide)) _ _
    · rw [if_neg e, eq2 k e]
      have r1 : OwnS w1 b0 (vs.getD k (.slice none 0 0)) (G k) := hs.turn.row (h.rows k hk2) fun p hp hp2 => h.apart k q hk2 hq e p hp hp2
      exact own_setC r1 (own_ne_bk r1 hK1 (by decide)) _ _
  · by_cases ej : j = q
    · subst ej
      rw [eq1] at hp
      rw [eq2 k (Ne.symm hjk)]
      intro e2
      rcases hs.at' p hp with e3 | e3
      · exact h.apart k j hk2 hj (Ne.symm hjk) p e2 e3
      · have := ((h.rows k hk2).lt p e2).2
        omega
    · rw [eq2 j ej] at hp
      by_cases ek : k = q
      · subst ek
        rw [eq1]
        intro e2
        rcases hs.at' p e2 with e3 | e3
        · exact h.apart j k hj hk2 hjk p hp e3
        · have := ((h.rows j hj).lt p hp).2
          omega
      · rw [eq2 k ek]
        exact h.apart j k hj hk2 hjk p hp

theorem Step.grow {w w' : World} {v v' : Value} (h : Step w w' v v') : w.grownBy w' v.ownBlock :=
  ⟨h.turn.os, h.turn.tape, h.turn.output, h.turn.size, fun i hi hne => h.turn.block i hi (fun e => hne e.symm)⟩
/-- The groups of the first k. -/
def gk (U : List So) (k g : Nat) : List ByteArray := (((fsts U).take k).filter (fun x => grpX x == g)).map (·.s.nm)
theorem gk_succ (U : List So) (k : Nat) (hk : k < (fsts U).length) (g : Nat) : (if g = grpX (fsts U)[k] then gk U k (grpX (fsts U)[k]) ++ [(fsts U)[k].s.nm] else gk U k g) = gk U (k + 1) g := by
  unfold gk
  rw [List.take_succ_eq_append_getElem hk, List.filter_append, List.map_append]
  by_cases e : g = grpX (fsts U)[k]
  · subst e
    rw [if_pos rfl]
    simp
  · rw [if_neg e]
    have : (grpX (fsts U)[k] == g) = false := by simp; exact fun h => e h.symm
    simp [this]
theorem gk_all (U : List So) (g : Nat) : gk U (fsts U).length g = (gn U g).map (·.s.nm) := by unfold gk gn; rw [List.take_length]
theorem gk_len (U : List So) (k g : Nat) : (gk U k g).length ≤ U.length := by
  unfold gk
  rw [List.length_map]
  exact Nat.le_trans (List.length_filter_le _ _) (Nat.le_trans (by simp; omega) (fsts_sub U).length_le)
theorem grp_mgo {U : List So} {x : So} (h : x ∈ fsts U) : grpO (mgo U x.s.nm) = grpX x := by
  show grp ((ps U x.s.nm).headD default).s.ty ((ps U x.s.nm).headD default).s.fl = _
  rw [fsts_head x h]; rfl
theorem load_strs {w : World} {p : Addr} {a : Option Addr} {n c : Nat} (hc : w.cell? p = some (.slice a n c)) : (loadVar 67 p).run Try.prog w = .ok (.slice a n c) w := by
  simp [loadVar, isAgg, run_underlying Try.underlying67, go_sem, hc]
theorem ix_9 (b k : Nat) (hk : k < 9) (W : World) : (Instr.indexAt 68 (.pointer (some ⟨b, 0, none⟩)) (.int .i64 (k : Int))).run Try.prog W = .ok (.pointer (some ⟨b, k, none⟩)) W := by
  have hi : (Try.prog.info? 67).map (·.size) = some 1 := by kernel_rfl
  cases hq : Try.prog.info? 67 with
  | none => simp [hq] at hi
  | some i =>
    have hi1 : i.size = 1 := by simpa [hq] using hi
    have h9 : (k : Int) < 9 := by omega
    by_cases e : k = 0
    · subst e
      simp [Instr.indexAt, run_underlying Try.underlying68, asIntOf, sizeOf, typeInfo, hq, hi1, Addr.add, Instr.sureAddr]
    · simp [Instr.indexAt, run_underlying Try.underlying68, asIntOf, sizeOf, typeInfo, hq, hi1, h9, Addr.add, hk, Instr.sureAddr, e]
theorem MG.turn {w w' : World} {B b : Nat} {U : List So} {F : ByteArray → Option (Ou × Value)} (h : MG w B b U F) {S : Nat → Prop} (ht : Turn S w w') (h1 : ¬ S b) (h2 : ∀ n p, F n = some p → ∀ q, p.2.ownBlock = some q → ¬ S q) : MG w' B b U F :=
  ⟨h.mp.turn ht h1, h.lo, h.no, fun n u v e => ⟨(h.at' n u v e).1, ht.row (h.at' n u v e).2 (fun k hk => h2 n _ e k hk)⟩, h.apart⟩
theorem run_loadArr {w : World} {g : Nat} {cs : Array Value} (h : Bk w g 68 cs) (hn : cs.size = 9) : (loadVar 68 ⟨g, 0, none⟩).run Try.prog w = .ok (.agg cs) w :=
  run_loadVar_row w g _ _ cs _ _ h.hp Try.underlying68 rfl (by rw [hn]; kernel_rfl)

def BEnd (U : List So) (w : World) (e : Ending) (w' : World) : Prop :=
  ∃ vs : List Value, e = .returned (.agg vs.toArray) ∧ vs.length = 9 ∧ (∀ g, g < 9 → OwnS w' w.heap.size (vs.getD g (.slice none 0 0)) ((gn U g).map (·.s.nm))) ∧ Below w.heap.size w w'
theorem und61 : Try.prog.underlying 61 = some (.map 9 89) := Try.underlying61
theorem key_is {t : ByteArray} {q : Lit} (h : keyOf Try.prog 9 (.string t) = some q) : q = kl t ∧ t.size ≤ maxLen := by
  obtain ⟨x, ex, rfl, hx⟩ := Maps.keyOf_str Try.underlying9 h
  have e : t = ⟨x.toArray⟩ := by unfold Go.Proofs.encStr at ex; injection ex
  subst e
  exact ⟨by unfold kl; simp, by show x.toArray.size ≤ maxLen; simpa using hx⟩
theorem ownR_base2 {w : World} {base base' e s n : Nat} {v : Value} {xs : List Value} (h : w.ownsRow base e s v n xs) (hb : base' ≤ base) : w.ownsRow base' e s v n xs := by
  refine ⟨h.1, ?_⟩
  rcases h.2 with hn | ⟨g, cap, cur, hv, hg, r⟩
  · exact .inl hn
  · exact .inr ⟨g, cap, cur, hv, by omega, r⟩

set_option maxHeartbeats 16000000 in
set_option maxRecDepth 20000 in
theorem byGroups_any {w : World} {B0 b : Nat} {U : List So} {F : ByteArray → Option (Ou × Value)} (hU : UB U) (hup : U.Pairwise ahd) (hk64 : ∀ x ∈ U, x.k < 64) (h : MG w B0 b U F) (hL : U.length ≤ 2097152) :
    Calls Try.prog 21 #[.map (some b)] w fun e w' => BEnd U w e w' := by
  obtain ⟨n, D, hnL, hown, hI⟩ := h.mp.own
  have hbl := hown.lt
  have HI : Hid _ := ⟨hI⟩
  have hsz : Maps.size D ≤ n := hown.size_le
  have HSZ : Hid (Maps.size D ≤ 2097152) := ⟨by omega⟩
  have HM : Hid _ := ⟨h⟩
  obtain ⟨B, hB⟩ : ∃ B, w.heap.size = B := ⟨_, rfl⟩
  have HLO : Hid (∀ n p, F n = some p → ∀ q, p.2.ownBlock = some q → q < B) := ⟨fun n p hp q hq => by have := ((h.at' n p.1 p.2 hp).2.lt q hq).2; omega⟩
  obtain ⟨w1, hw1⟩ : ∃ w1, (w.alloc (.cells #[.map (some b)] 61)).alloc (.cells #[.slice none 0 0, .slice none 0 0, .slice none 0 0, .slice none 0 0, .slice none 0 0, .slice none 0 0, .slice none 0 0, .slice none 0 0, .slice none 0 0] 68) = w1 := ⟨_, rfl⟩
  have F0 : Below B w w1 := by rw [← hB, ← hw1]; exact ((Below.refl _ _).alloc (Nat.le_refl _) _).alloc (by simp) _
  have KX : Bk w1 B 61 #[.map (some b)] := by rw [← hB, ← hw1]; exact (Bk.new _ _ _).alloc _
  have KR : Bk w1 (B + 1) 68 #[.slice none 0 0, .slice none 0 0, .slice none 0 0, .slice none 0 0, .slice none 0 0, .slice none 0 0, .slice none 0 0, .slice none 0 0, .slice none 0 0] := by
    rw [← hw1]
    have := Bk.new (w.alloc (.cells #[.map (some b)] 61)) #[.slice none 0 0, .slice none 0 0, .slice none 0 0, .slice none 0 0, .slice none 0 0, .slice none 0 0, .slice none 0 0, .slice none 0 0, .slice none 0 0] 68
    have e : (w.alloc (.cells #[.map (some b)] 61)).heap.size = B + 1 := by rw [← hB]; simp
    rwa [e] at this
  have HM1 : Hid (MG w1 B0 b U F) := ⟨h.bel (by rw [hB]; exact F0)⟩
  have hown1 : w1.ownsMap Try.prog 9 RV b n D := by rw [← hw1]; exact (hown.alloc _).alloc _
  have hsz1 : w1.heap.size = B + 2 := by rw [← hw1, ← hB]; simp
  have HKX : Hid _ := ⟨KX⟩
  have HKR : Hid _ := ⟨KR⟩
  have HF0 : Hid _ := ⟨F0⟩
  have x0 : w1.cell? ⟨B, 0, none⟩ = some (.map (some b)) := KX.cell 0 rfl
  clear KX KR F0 h hown hI
  go_enter Try.func21, Try.ntmps21
  go_upto_region 2 with (fail)
  clear hw1
  go_wp2_with (at_range; refine wpList_range_own _ rfl _ 61 rfl 9 89 law9 und61 RV b n D rfl hown1 ?_; intro w2 hrg0 hg0 hs0)
  go_frame
  rw [hsz1] at hrg0 hs0 ⊢
  have F1 : Hid (Below B w w2 ∧ MG w2 B0 b U F ∧ Bk w2 B 61 #[.map (some b)] ∧ Bk w2 (B + 1) 68 #[.slice none 0 0, .slice none 0 0, .slice none 0 0, .slice none 0 0, .slice none 0 0, .slice none 0 0, .slice none 0 0, .slice none 0 0, .slice none 0 0]) := ⟨HF0.out.grown hg0 (by omega) (fun j hj => by cases hj), HM1.out.far hg0 (by simp) (fun n p hp q hq => by simp), HKX.out.grown hg0 (by simp), HKR.out.grown hg0 (by simp)⟩
  have hbB : b < B := by omega
  clear hown1 hsz HF0 HM1 HKX HKR x0
  go_loopw [3] (fun v wr => ∃ (left : Lit → Bool) (cnt : Nat) (ss : List (ByteArray × (Ou × Value))), wr.ranges Try.prog 9 RV b (B + 2) n D left cnt ∧ Hid (ss.length + cnt ≤ Maps.size D ∧ OwnS wr (B + 3) v (ss.map (·.1)) ∧ Coll F left ss ∧ Below B w wr ∧ B + 3 ≤ wr.heap.size ∧ MG wr B0 b U F ∧ Bk wr B 61 #[.map (some b)] ∧ Bk wr (B + 1) 68 #[.slice none 0 0, .slice none 0 0, .slice none 0 0, .slice none 0 0, .slice none 0 0, .slice none 0 0, .slice none 0 0, .slice none 0 0, .slice none 0 0])) (fun _ wr => wr.rangeLeft b (B + 2))
  case atStart => exact ⟨_, _, [], hrg0, ⟨by simp, OwnS.nil _ _, Coll.start HI.out, F1.out.1, by omega, F1.out.2⟩⟩
  case round =>
    obtain ⟨left, cnt, ss, hrg, HW⟩ := hrel
    go_wp2_with (at_next; refine wpList_next_ranges _ rfl _ rfl 9 law9 RV (fun t : ByteArray => Value.string t) (fun c : Value => c) (fun key q hk => by obtain ⟨x, hx, _⟩ := Maps.keyOf_str Try.underlying9 hk; exact ⟨⟨x.toArray⟩, hx⟩) (fun c y _ => ⟨c, rfl⟩) b (B + 2) n _ _ _ rfl hrg ?_ ?_)
    · intro hc0 hl0
      obtain ⟨l, hl⟩ : ∃ l : List (Nm U), l.map (·.1) = ss.map (·.1) := ⟨(ss.map (·.1)).attachWith _ (fun t ht => by
        obtain ⟨⟨t1, p⟩, h1, rfl⟩ := List.mem_map.1 ht
        have h2 := ((HW.out.2.2.1.mem t1 p).1 h1).1
        intro h3
        rw [(HW.out.2.2.2.2.2.1.no t1).2 h3] at h2
        cases h2), by simp⟩
      have HMEM : Hid (∀ t, t ∈ l.map (·.1) ↔ ps U t ≠ []) := ⟨fun t => by
        rw [hl, List.mem_map]
        constructor
        · rintro ⟨⟨t1, p⟩, h1, rfl⟩ h3
          have h2 := ((HW.out.2.2.1.mem t1 p).1 h1).1
          rw [(HW.out.2.2.2.2.2.1.no t1).2 h3] at h2
          cases h2
        · intro h3
          cases e : F t with
          | none => exact absurd ((HW.out.2.2.2.2.2.1.no t).1 e) h3
          | some p => exact ⟨(t, p), (HW.out.2.2.1.mem t p).2 ⟨e, hl0 _⟩, rfl⟩⟩
      have HND : Hid ((l.map (·.1)).Nodup) := ⟨by rw [hl]; exact HW.out.2.2.1.nd⟩
      have HLL : Hid (l.length ≤ 2097152) := ⟨by have h1 := congrArg List.length hl; simp at h1; have := HW.out.1; have := HSZ.out; omega⟩
      have HS : Hid _ := ⟨sortBy_any (l := l) (v := u3) (base := B + 3) (X := B) hU HW.out.2.2.2.2.2.1 (HW.out.2.2.2.2.2.2.1.cell 0 rfl) (by omega) (by omega) (fun n p hp q hq => by have := HLO.out n p hp q hq; omega) (by rw [hl]; exact HW.out.2.1) (by have := HLL.out; omega)⟩
      have HOLD : Hid (∀ q, u3.ownBlock = some q → B + 3 ≤ q) := ⟨fun q hq => (own_cells2 HW.out.2.1 q hq).1⟩
      clear hl
      go_upto_region 7 with (go_at_call 38; refine HS.out.mono ?_; rintro e w4 ⟨rfl, d, hp, hd, hown4, hg4⟩; have HD : Hid (d.map (·.1) = (fsts U).map (·.s.nm)) := ⟨names_sorted hup hk64 (fun t => (List.Perm.mem_iff (hp.map _)).trans (HMEM.out t)) ((hp.map _).nodup_iff.2 HND.out) (List.pairwise_map.2 hd)⟩; have HO4 : Hid (OwnS w4 (B + 3) u3 ((fsts U).map (·.s.nm))) := ⟨by rw [← HD.out]; exact hown4⟩; have HY4 : Hid (Below B w w4 ∧ MG w4 B0 b U F ∧ Bk w4 B 61 #[.map (some b)] ∧ Bk w4 (B + 1) 68 #[.slice none 0 0, .slice none 0 0, .slice none 0 0, .slice none 0 0, .slice none 0 0, .slice none 0 0, .slice none 0 0, .slice none 0 0, .slice none 0 0]) := ⟨HW.out.2.2.2.1.grown hg4 (by have := HW.out.2.2.2.2.1; omega) (fun j hj => by have := HOLD.out j hj; omega), HW.out.2.2.2.2.2.1.far hg4 (fun e => by have := HOLD.out b e; omega) (fun n p hp q hq e => by have := HLO.out n p hp q hq; have := HOLD.out q e; omega), HW.out.2.2.2.2.2.2.1.grown hg4 (fun e => by have := HOLD.out B e.symm; omega), HW.out.2.2.2.2.2.2.2.grown hg4 (fun e => by have := HOLD.out (B + 1) e.symm; omega)⟩; clear hown4 hg4 hp hd HD)
      clear HS HMEM HND HLL HOLD HW hrg hl0 hc0
      have HL0 : Hid (GS w4.heap.size (w4.alloc (.cells #[.slice none 0 0, .slice none 0 0, .slice none 0 0, .slice none 0 0, .slice none 0 0, .slice none 0 0, .slice none 0 0, .slice none 0 0, .slice none 0 0] 68)) w4.heap.size 9 (List.replicate 9 (.slice none 0 0)) (fun _ => [])) := ⟨Bk.new _ _ _, rfl, fun k hk => by
        have : (List.replicate 9 (Value.slice none 0 0)).getD k (.slice none 0 0) = .slice none 0 0 := by
          rw [List.getD_eq_getElem?_getD, List.getElem?_replicate]; split <;> rfl
        rw [this]; exact OwnS.nil _ _, fun j k hj hk _ q hq => by
        have : (List.replicate 9 (Value.slice none 0 0)).getD j (.slice none 0 0) = .slice none 0 0 := by
          rw [List.getD_eq_getElem?_getD, List.getElem?_replicate]; split <;> rfl
        rw [this] at hq; cases hq⟩
      have HO5 : Hid (OwnS (w4.alloc (.cells #[.slice none 0 0, .slice none 0 0, .slice none 0 0, .slice none 0 0, .slice none 0 0, .slice none 0 0, .slice none 0 0, .slice none 0 0, .slice none 0 0] 68)) (B + 3) u3 ((fsts U).map (·.s.nm))) := ⟨World.ownsRow.alloc HO4.out _⟩
      have HY5 : Hid (Below B w (w4.alloc (.cells #[.slice none 0 0, .slice none 0 0, .slice none 0 0, .slice none 0 0, .slice none 0 0, .slice none 0 0, .slice none 0 0, .slice none 0 0, .slice none 0 0] 68)) ∧ MG (w4.alloc (.cells #[.slice none 0 0, .slice none 0 0, .slice none 0 0, .slice none 0 0, .slice none 0 0, .slice none 0 0, .slice none 0 0, .slice none 0 0, .slice none 0 0] 68)) B0 b U F ∧ Bk (w4.alloc (.cells #[.slice none 0 0, .slice none 0 0, .slice none 0 0, .slice none 0 0, .slice none 0 0, .slice none 0 0, .slice none 0 0, .slice none 0 0, .slice none 0 0] 68)) B 61 #[.map (some b)] ∧ Bk (w4.alloc (.cells #[.slice none 0 0, .slice none 0 0, .slice none 0 0, .slice none 0 0, .slice none 0 0, .slice none 0 0, .slice none 0 0, .slice none 0 0, .slice none 0 0] 68)) (B + 1) 68 #[.slice none 0 0, .slice none 0 0, .slice none 0 0, .slice none 0 0, .slice none 0 0, .slice none 0 0, .slice none 0 0, .slice none 0 0, .slice none 0 0]) := ⟨HY4.out.1.alloc (by have := HY4.out.1.size; omega) _, HY4.out.2.1.alloc _, HY4.out.2.2.1.alloc _, HY4.out.2.2.2.alloc _⟩
      have HBL : Hid (∀ q, u3.ownBlock = some q → q < w4.heap.size) := ⟨fun q hq => (own_cells2 HO4.out q hq).2.1⟩
      obtain ⟨ao, cap, hv3, _⟩ := HO4.out.any
      subst hv3
      go_upto_region 8 with (fail)
      obtain ⟨L, hL9⟩ : ∃ L, w4.heap.size = L := ⟨_, rfl⟩
      have HLB : Hid (B ≤ L ∧ B + 1 < L) := ⟨by have := HY4.out.1.size; omega, by have := HY4.out.2.2.2.lt; omega⟩
      rw [hL9] at HL0 HBL ⊢
      clear hL9 HO4 HY4
      generalize w4.alloc (.cells #[.slice none 0 0, .slice none 0 0, .slice none 0 0, .slice none 0 0, .slice none 0 0, .slice none 0 0, .slice none 0 0, .slice none 0 0, .slice none 0 0] 68) = v0 at *
      go_upto_region 9 with (fail)
      go_loopw [24] (fun i wr => ∃ k : Nat, k ≤ (fsts U).length ∧ i = .int .i64 k ∧ Hid ((∃ vs, GS L wr L 9 vs (gk U k)) ∧ Below B w wr ∧ MG wr B0 b U F ∧ Bk wr B 61 #[.map (some b)] ∧ Bk wr (B + 1) 68 #[.slice none 0 0, .slice none 0 0, .slice none 0 0, .slice none 0 0, .slice none 0 0, .slice none 0 0, .slice none 0 0, .slice none 0 0, .slice none 0 0] ∧ OwnS wr (B + 3) (.slice ao ((fsts U).map (·.s.nm)).length cap) ((fsts U).map (·.s.nm)))) (fun i _ => (fsts U).length - (intOf i).toNat)
      case atStart => exact ⟨0, by omega, rfl, ⟨⟨_, HL0.out⟩, HY5.out.1, HY5.out.2.1, HY5.out.2.2.1, HY5.out.2.2.2, HO5.out⟩⟩
      case round =>
        obtain ⟨k, hk, rfl, HW⟩ := hrel
        obtain ⟨⟨vs, hvs⟩, hW2⟩ := HW.out
        have HZ0 : Hid (GS L wr L 9 vs (gk U k) ∧ _) := ⟨hvs, hW2⟩
        have hfl : (fsts U).length ≤ 2097152 := Nat.le_trans (fsts_sub U).length_le hL
        clear hvs hW2 HW
        by_cases hlt : k < (fsts U).length
        · obtain ⟨ao2, cap2, hv4, _, _, hst, _⟩ := HZ0.out.2.2.2.2.2.any
          injection hv4 with e1 e2 e3
          subst e1 e3
          obtain ⟨b3, off3, rfl, hstr⟩ : ∃ b off, ao = some ⟨b, off, none⟩ ∧ ∀ i, i < ((fsts U).map (·.s.nm)).length → wr.cell? ⟨b, off + i, none⟩ = some (.string (((fsts U).map (·.s.nm)).getD i ByteArray.empty)) := by
            rcases hst with h | h
            · have := congrArg List.length h; simp at this; rw [this] at hlt; simp at hlt
            · exact h
          have c0 := hstr k (by simpa using hlt)
          have hgd : ((fsts U).map (·.s.nm)).getD k ByteArray.empty = (fsts U)[k].s.nm := by simp [hlt]
          rw [hgd] at c0
          have hxm := List.getElem_mem hlt
          have HGS : Hid (∀ g, _) := ⟨gk_succ U k hlt⟩
          have hps : ps U (fsts U)[k].s.nm ≠ [] := mem_names.1 (List.mem_map.2 ⟨_, hxm, rfl⟩)
          have hnz := hU.nz hps
          have HGO : Hid (grpO (mgo U (fsts U)[k].s.nm) = grpX (fsts U)[k]) := ⟨grp_mgo hxm⟩
          have hg8 : grpX (fsts U)[k] ≤ 8 := grp_le _ _
          obtain ⟨pv, hFn⟩ : ∃ pv, F (fsts U)[k].s.nm = some (mgo U (fsts U)[k].s.nm, pv) := by
            rcases HZ0.out.2.2.1.getE (fsts U)[k].s.nm with ⟨_, h2⟩ | ⟨v, h2, _⟩
            · exact absurd h2 hps
            · exact ⟨v, h2⟩
          clear hstr hst hgd hps hxm
          generalize hnm : (fsts U)[k].s.nm = nm at *
          generalize hgx : grpX (fsts U)[k] = g at *
          clear hnm hgx
          have HGR : Hid (∀ W, _) := ⟨fun W => groupOf_any (mgo U nm) W⟩
          rw [HGO.out] at HGR
          obtain ⟨mn, mt, mf, ma, md, ms⟩ := mgo U nm
          dsimp only [Ou.val] at *
          have x0 : wr.cell? ⟨B, 0, none⟩ = some (.map (some b)) := HZ0.out.2.2.2.1.cell 0 rfl
          have hfd := field0
          go_upto_region 12 with (first
            | (at_lookup; refine wpList_lookV rfl _ _ 61 rfl 89 Try.underlying61 (zeroM _) rfl HZ0.out.2.2.1.mp rfl hnz ?_; rw [hFn]; dsimp only [mval, Option.getD])
            | (go_at_call 40; refine (HGR.out _).mono ?_; rintro e w6 ⟨rfl, hb6⟩; have HB6 : Hid _ := ⟨hb6⟩; clear hb6))
          have HZ : Hid (GS L w6 L 9 vs (gk U k) ∧ Below B w w6 ∧ MG w6 B0 b U F ∧ Bk w6 B 61 #[.map (some b)] ∧ Bk w6 (B + 1) 68 #[.slice none 0 0, .slice none 0 0, .slice none 0 0, .slice none 0 0, .slice none 0 0, .slice none 0 0, .slice none 0 0, .slice none 0 0, .slice none 0 0] ∧ OwnS w6 (B + 3) (.slice (some ⟨b3, off3, none⟩) ((fsts U).map (·.s.nm)).length cap) ((fsts U).map (·.s.nm))) := ⟨HZ0.out.1.bel HB6.out, bt2 hB HZ0.out.2.1 HB6.out, HZ0.out.2.2.1.bel HB6.out, HZ0.out.2.2.2.1.bel HB6.out HZ0.out.2.2.2.1.lt, HZ0.out.2.2.2.2.1.bel HB6.out HZ0.out.2.2.2.2.1.lt, own_bel HZ0.out.2.2.2.2.2 HB6.out⟩
          clear x0 c0 HZ0 HB6 hfd HGR HGO
          have hg9 : g < 9 := by omega
          obtain ⟨va, vn, vc, hvg⟩ := own_sl (HZ.out.1.rows g hg9)
          have HROW : Hid (OwnS w6 L (.slice va vn vc) (gk U k g)) := ⟨by rw [← hvg]; exact HZ.out.1.rows g hg9⟩
          have HVA : Hid (vs.toArray[g]? = some (.slice va vn vc)) := ⟨by
            have hl9 : g < vs.length := by rw [HZ.out.1.len]; exact hg9
            rw [← hvg]; simp [hl9]⟩
          have HGN : Hid ((gk U k g).length ≤ 2097152) := ⟨Nat.le_trans (gk_len U k g) hL⟩
          have n6 : w6.cell? ⟨L, g, none⟩ = some (.slice va vn vc) := HZ.out.1.bk.cell g HVA.out
          have hix := ix_9 L g hg9
          have HVG : Hid _ := ⟨hvg⟩
          clear hvg
          go_upto_region 13 with (at_builtin; refine append_name _ rfl _ _ rfl L _ _ rfl HROW.out nm rfl (by have := HGN.out; omega) (by have := HZ.out.1.bk.lt; omega) ?_; intro rv w7 hr7 hs7; obtain ⟨xa, xn, xc, hxv⟩ := own_sl hr7; subst hxv; have HR7 : Hid _ := ⟨hr7⟩; have HS7 : Hid (Step w6 w7 (.slice va vn vc) (.slice xa xn xc)) := ⟨hs7⟩; clear hr7 hs7; have HK7 : Hid _ := ⟨HZ.out.1.bk.turn HS7.out.turn (fun e => own_ne_bk HROW.out HZ.out.1.bk (by decide) e)⟩; have n7 : w7.cell? ⟨L, g, none⟩ = some (.slice va vn vc) := HK7.out.cell g HVA.out; have nf7 := HK7.out.fro g; go_frame)
          have HFIN : Hid (GS L (w7.setCell ⟨L, g, none⟩ (.slice xa xn xc)) L 9 (vs.set g (.slice xa xn xc)) (gk U (k + 1)) ∧ Below B w (w7.setCell ⟨L, g, none⟩ (.slice xa xn xc)) ∧ MG (w7.setCell ⟨L, g, none⟩ (.slice xa xn xc)) B0 b U F ∧ Bk (w7.setCell ⟨L, g, none⟩ (.slice xa xn xc)) B 61 #[.map (some b)] ∧ Bk (w7.setCell ⟨L, g, none⟩ (.slice xa xn xc)) (B + 1) 68 #[.slice none 0 0, .slice none 0 0, .slice none 0 0, .slice none 0 0, .slice none 0 0, .slice none 0 0, .slice none 0 0, .slice none 0 0, .slice none 0 0] ∧ OwnS (w7.setCell ⟨L, g, none⟩ (.slice xa xn xc)) (B + 3) (.slice (some ⟨b3, off3, none⟩) ((fsts U).map (·.s.nm)).length cap) ((fsts U).map (·.s.nm))) := by
            have HT : Turn (fun q => Value.ownBlock (.slice va vn vc) = some q ∨ q = L) w6 (w7.setCell ⟨L, g, none⟩ (.slice xa xn xc)) := (HS7.out.turn.mono (fun q _ h => .inl h)).setC (.inr rfl) g _
            have hlow : ∀ q, (Value.ownBlock (.slice va vn vc) = some q ∨ q = L) → L ≤ q := fun q hq => hq.elim (fun h => (own_cells2 HROW.out q h).1) (fun h => by omega)
            refine ⟨?_, HZ.out.2.1.trans (HT.below (by have := HZ.out.2.1.size; omega) (fun q hq => by have := hlow q hq; have := HLB.out.1; omega)), HZ.out.2.2.1.turn HT (fun e => by have := hlow b e; have := HLB.out.1; omega) (fun n p hp q hq e => by have := HLO.out n p hp q hq; have := hlow q e; have := HLB.out.1; omega), HZ.out.2.2.2.1.turn HT (fun e => by have := hlow B e; have := HLB.out.2; omega), HZ.out.2.2.2.2.1.turn HT (fun e => by have := hlow (B + 1) e; have := HLB.out.2; omega), HT.row HZ.out.2.2.2.2.2 (fun q hq e => by have := hlow q e; have := HBL.out q hq; omega)⟩
            have := HZ.out.1.put hg9 (v' := .slice xa xn xc) (ys := gk U k g ++ [nm]) HR7.out (by rw [HVG.out]; exact HS7.out)
            exact this.congr (fun q _ => HGS.out q)
          clear n6 n7 nf7 hix HK7 HR7 HS7 HROW HVA HVG HZ
          go_wp2
          go_roundw
          case rel => exact ⟨k + 1, hlt, by go_num, ⟨⟨_, HFIN.out.1⟩, HFIN.out.2⟩⟩
          case measure => simp [intOf]; omega
        · obtain rfl : k = (fsts U).length := by omega
          have hsz9 : vs.toArray.size = 9 := by simp [HZ0.out.1.len]
          have KR := HZ0.out.2.2.2.2.1
          go_upto_region 14 with (fail)
          iterate 1 go_step
          refine wpList_load_of (p := ⟨L, 0, none⟩) (v := .agg vs.toArray) rfl (by kernel_rfl) (by kernel_rfl) (run_loadArr HZ0.out.1.bk hsz9) ?_
          try simp only [Act.put, List.getElem_toArray, List.getElem_cons_succ, List.getElem_cons_zero, List.setIfInBounds_toArray, List.set_cons_zero, List.set_cons_succ]
          refine wpList_part (g := B + 1) (off := 0) (val := .agg vs.toArray) (new := vs.toArray) rfl rfl (by kernel_rfl) (by kernel_rfl) KR (by rw [show (Value.agg vs.toArray).cells.toList = vs from rfl, HZ0.out.1.len]; kernel_rfl) (by rw [show (Value.agg vs.toArray).cells.toList = vs from rfl, HZ0.out.1.len]; exact Nat.le_refl _) (fun u hu => by
            obtain ⟨i, hi, rfl⟩ := List.getElem_of_mem (show u ∈ vs from hu)
            have := (own_vone (HZ0.out.1.rows i (by rw [← HZ0.out.1.len]; exact hi))).2
            rwa [show vs.getD i (.slice none 0 0) = vs[i] by simp [hi]] at this) (by
            have := putAt_mid (List.replicate 9 (Value.slice none 0 0)) vs [] [] (by rw [HZ0.out.1.len]; rfl)
            rw [show (Value.agg vs.toArray).cells.toList = vs from rfl]
            simpa using this) ?_
          try simp only [Act.put, List.getElem_toArray, List.getElem_cons_succ, List.getElem_cons_zero, List.setIfInBounds_toArray, List.set_cons_zero, List.set_cons_succ]
          refine wpList_nil ?_
          have KE := KR.setR vs.toArray
          have HT : Turn (fun q => q = B + 1) wr (wr.setRow (B + 1) vs.toArray) := ⟨rfl, rfl, rfl, by simp, fun k _ hk => setRow_other wr (B + 1) k _ hk⟩
          have HROWS : Hid (∀ g, g < 9 → OwnS (wr.setRow (B + 1) vs.toArray) B (vs.getD g (.slice none 0 0)) ((gn U g).map (·.s.nm))) := ⟨fun g hg => by
            have h1 := HZ0.out.1.rows g hg
            rw [gk_all] at h1
            exact ownR_base2 (HT.row h1 (fun q hq e => by have := (own_cells2 h1 q hq).1; have := HLB.out.2; omega)) HLB.out.1⟩
          have HFB : Hid (Below B w (wr.setRow (B + 1) vs.toArray)) := ⟨bel_setR HZ0.out.2.1 (B + 1) (by omega) _⟩
          have HLEN : Hid _ := ⟨HZ0.out.1.len⟩
          clear HT HZ0
          go_wp2_with fail
          exact bodyPost_ret (v := .agg vs.toArray) (results_cell_row (p := 2) (ty := 68) (by kernel_rfl) _ _ (B + 1) 68 _ (0, 0) _ (by kernel_rfl) KE.hp Try.underlying68 rfl (by rw [hsz9]; kernel_rfl)) rfl ⟨vs, rfl, HLEN.out, by first | exact HROWS.out | (rw [hB]; exact HROWS.out), by first | exact HFB.out | (rw [hB]; exact HFB.out)⟩
    · intro t c q yd yp w2 cnt2 hkey hlk hv hat hrg2 hlt hg2 hs2 hen
      obtain ⟨rfl, htz⟩ := key_is hkey
      have hyd : yd = .held c := (congrArg Prod.fst (Option.some.inj hv)).symm
      subst hyd
      obtain ⟨u, hu, hcu, hC2⟩ := Coll.step HI.out HW.out.2.2.1 hlk hat
      have hbs := HW.out.2.1
      have hnr : ∀ q, u3.ownBlock = some q → q ≠ B + 2 := fun q hq => by have := (own_cells2 hbs q hq).1; omega
      have HC : Hid _ := ⟨hC2⟩
      have HO : Hid (OwnS w2 (B + 3) u3 (ss.map (·.1))) := ⟨own_far hbs hg2 (fun q hq e => hnr q hq (by injection e with e; exact e.symm))⟩
      have HB : Hid (Below B w w2 ∧ MG w2 B0 b U F ∧ Bk w2 B 61 #[.map (some b)] ∧ Bk w2 (B + 1) 68 #[.slice none 0 0, .slice none 0 0, .slice none 0 0, .slice none 0 0, .slice none 0 0, .slice none 0 0, .slice none 0 0, .slice none 0 0, .slice none 0 0]) := ⟨HW.out.2.2.2.1.grown hg2 (by have := HW.out.2.2.2.2.1; omega) (fun j hj => by cases hj; omega), HW.out.2.2.2.2.2.1.far hg2 (fun e => by injection e; omega) (fun n p hp q hq e => by have := HLO.out n p hp q hq; injection e; omega), HW.out.2.2.2.2.2.2.1.grown hg2 (fun e => by injection e; omega), HW.out.2.2.2.2.2.2.2.grown hg2 (fun e => by injection e; omega)⟩
      have hz2 : B + 3 ≤ w2.heap.size := by have := HW.out.2.2.2.2.1; omega
      have hln : ss.length + 1 ≤ 2097152 := by have := HW.out.1; have := HSZ.out; omega
      have hcn : ss.length + 1 + cnt2 ≤ Maps.size D := by have := HW.out.1; omega
      clear hs2 hbs hC2 hat hv hkey hcu hnr
      go_wp2_with (at_builtin; refine append_name _ rfl _ _ rfl (B + 3) _ _ rfl HO.out t rfl (by simp; omega) (by omega) ?_; intro v1 w5 hr5 hs5; go_frame)
      have hg5 : w2.grownBy w5 u3.ownBlock := hs5.grow
      have hrow2 := HO.out
      have hlow : ∀ q, u3.ownBlock = some q → B + 3 ≤ q := fun q hq => (own_cells2 hrow2 q hq).1
      have hrg5 := hrg2.kept hg5 (fun e => by have := hlow _ e.symm; omega) (fun e => by have := hlow _ e.symm; omega)
      go_roundw
      case rel =>
        exact ⟨_, cnt2, ss ++ [(t, u)], hrg5, ⟨by simp; omega, by rw [List.map_append]; exact hr5, HC.out, HB.out.1.grown hg5 (by have := HB.out.1.size; omega) (fun j hj => by have := hlow _ hj; omega), by have := hg5.size; omega, HB.out.2.1.far hg5 (fun e => by have := hlow _ e; omega) (fun n p hp q hq e => by have := HLO.out n p hp q hq; have := hlow _ e; omega), HB.out.2.2.1.grown hg5 (fun e => by have := hlow _ e.symm; omega), HB.out.2.2.2.grown hg5 (fun e => by have := hlow _ e.symm; omega)⟩⟩
      case measure => rw [hrg5.left_eq, hrg.left_eq]; exact hlt
end Go.Proofs.Ytojiomkinhnodaa
