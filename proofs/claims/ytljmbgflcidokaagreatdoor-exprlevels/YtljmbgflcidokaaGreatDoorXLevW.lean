/- ExprLevels: the walk. -/
import Derived.Test.YtljmbgflcidokaaGreatDoorXKnows2
import Derived.Deep.Cut
import Derived.Deep.CutRange
namespace Go.Proofs.YtljmbgflcidokaaGreatDoor
open Go.ChangeShapes Go.WideShapes Go.ChangeAt Go.RowKit Go.Maps
set_option linter.unusedVariables false
set_option linter.unusedSimpArgs false

/-- Numbers that came in. -/
def IntsAt (w : World) (ao : Option Addr) (ns : List Int) : Prop := ns = [] ∨ ∃ b off, ao = some ⟨b, off, none⟩ ∧ ∀ i, i < ns.length → w.cell? ⟨b, off + i, none⟩ = some (.int .i64 (ns.getD i 0))
theorem IntsAt.at {w w' : World} {ao : Option Addr} {ns : List Int} (h : IntsAt w ao ns) (hb : Below w.heap.size w w') {i : Nat} (hi : i < ns.length) : ∃ b off, ao = some ⟨b, off, none⟩ ∧ b < w.heap.size ∧ w'.cell? ⟨b, off + i, none⟩ = some (.int .i64 (ns.getD i 0)) := by
  obtain ⟨b, off, e, h⟩ := h.resolve_left (fun e => by rw [e] at hi; simp at hi)
  exact ⟨b, off, e, World.block_lt_of_cell? w _ (h i hi), to_bel hb (h i hi)⟩
def lvSg : Nat → List (List UInt8)
  | 0 => [[42], [47], [60, 60], [62, 62]]
  | 1 => [[38], [124], [94]]
  | _ => [[43], [45]]
theorem lvSg_ok (lv i : Nat) (hlv : lv < 3) (hi : i < (lvSg lv).length) : lvOf ((lvSg lv).getD i []) = some lv ∧ ((lvSg lv).getD i []).length ≤ 2 := by
  have hc : lv = 0 ∨ lv = 1 ∨ lv = 2 := by omega
  rcases hc with rfl | rfl | rfl
  · have : ∀ k : Fin 4, lvOf ((lvSg 0).getD k.val []) = some 0 ∧ ((lvSg 0).getD k.val []).length ≤ 2 := by decide
    exact this ⟨i, hi⟩
  · have : ∀ k : Fin 3, lvOf ((lvSg 1).getD k.val []) = some 1 ∧ ((lvSg 1).getD k.val []).length ≤ 2 := by decide
    exact this ⟨i, hi⟩
  · have : ∀ k : Fin 2, lvOf ((lvSg 2).getD k.val []) = some 2 ∧ ((lvSg 2).getD k.val []).length ≤ 2 := by decide
    exact this ⟨i, hi⟩
theorem lvSg_len (lv : Nat) : 2 ≤ (lvSg lv).length ∧ (lvSg lv).length ≤ 4 := by
  cases lv with
  | zero => decide
  | succ lv =>
    cases lv with
    | zero => decide
    | succ lv => exact ⟨Nat.le_refl 2, (by decide : (2 : Nat) ≤ 4)⟩
/-- Which sign stands ahead of the k-th number. -/
def ixK (lv : Nat) (ws : List Int) (k : Nat) : Nat := if ws = [] then 0 else (((ws.getD (k % ws.length) 0).tmod ((lvSg lv).length : Int) + ((lvSg lv).length : Int)).tmod ((lvSg lv).length : Int)).toNat
def sgK (lv : Nat) (ws : List Int) (k : Nat) : List UInt8 := (lvSg lv).getD (ixK lv ws k) []
theorem mod_ix (z n : Int) (hn : 0 < n) : 0 ≤ (z.tmod n + n).tmod n ∧ (z.tmod n + n).tmod n < n ∧ -n < z.tmod n ∧ z.tmod n < n := by
  have h1 : z.tmod n < n := Int.tmod_lt_of_pos z hn
  have h2 : -n < z.tmod n := by
    have := Int.lt_tmod_of_pos z hn
    exact this
  have h3 : 0 ≤ z.tmod n + n := by omega
  exact ⟨Int.tmod_nonneg n h3, Int.tmod_lt_of_pos _ hn, h2, h1⟩
theorem ixK_lt (lv : Nat) (ws : List Int) (k : Nat) : ixK lv ws k < (lvSg lv).length := by
  have := lvSg_len lv
  unfold ixK
  split
  · omega
  · have h := mod_ix (ws.getD (k % ws.length) 0) ((lvSg lv).length : Int) (by omega)
    omega
/-- The first k numbers, with their signs. -/
def psK (lv : Nat) (ws ns : List Int) (k : Nat) : List (List UInt8 × Int) := (List.range (k - 1)).map fun i => (sgK lv ws (i + 1), ns.getD (i + 1) 0)
def toksK (lv : Nat) (ws ns : List Int) (k : Nat) : List TL := if k = 0 then [] else tksT (ns.getD 0 0) (psK lv ws ns k)
theorem psK_succ (lv : Nat) (ws ns : List Int) {k : Nat} (hk : 1 ≤ k) : psK lv ws ns (k + 1) = psK lv ws ns k ++ [(sgK lv ws k, ns.getD k 0)] := by
  unfold psK
  rw [show k + 1 - 1 = (k - 1) + 1 by omega, List.range_succ, List.map_append]
  simp only [List.map_cons, List.map_nil]
  rw [show k - 1 + 1 = k by omega]
theorem toksK_succ (lv : Nat) (ws ns : List Int) {k : Nat} (hk : 1 ≤ k) : toksK lv ws ns (k + 1) = toksK lv ws ns k ++ [tkS (sgK lv ws k)] ++ [tkN (ns.getD k 0)] := by
  unfold toksK
  rw [if_neg (by omega), if_neg (by omega), psK_succ lv ws ns hk]
  unfold tksT
  rw [tksF_app]
  simp [tksF]
theorem toksK_one (lv : Nat) (ws ns : List Int) : toksK lv ws ns 1 = [] ++ [tkN (ns.getD 0 0)] := rfl
theorem toksK_len (lv : Nat) (ws ns : List Int) {k : Nat} (hk : 1 ≤ k) : (toksK lv ws ns k).length = 2 * k - 1 := by
  unfold toksK
  rw [if_neg (by omega), tksT_len]
  simp [psK]; omega
theorem psK_lv (lv : Nat) (hlv : lv < 3) (ws ns : List Int) (k : Nat) : ∀ p ∈ psK lv ws ns k, lvOf p.1 = some lv := by
  intro p hp
  unfold psK at hp
  rw [List.mem_map] at hp
  obtain ⟨i, _, rfl⟩ := hp
  exact (lvSg_ok lv _ hlv (ixK_lt lv ws _)).1
theorem toksK_kind (lv : Nat) (ws ns : List Int) (k : Nat) : ∀ p ∈ toksK lv ws ns k, p.1.k = 2 ∨ p.1.k = 4 := by
  intro p hp
  unfold toksK at hp
  split at hp
  · cases hp
  · unfold tksT tksF at hp
    rcases List.mem_cons.1 hp with rfl | hp
    · exact .inl rfl
    · obtain ⟨q, _, hq⟩ := List.mem_flatMap.1 hp
      simp only [List.mem_cons, List.not_mem_nil, or_false] at hq
      rcases hq with rfl | rfl
      · exact .inr rfl
      · exact .inl rfl
theorem toksK_text (lv : Nat) (hlv : lv < 3) (ws ns : List Int) (k : Nat) : ∀ p ∈ toksK lv ws ns k, p.1.t.length ≤ 140737488355328 := by
  intro p hp
  unfold toksK at hp
  split at hp
  · cases hp
  · unfold tksT tksF at hp
    rcases List.mem_cons.1 hp with rfl | hp
    · simp [tkN]
    · obtain ⟨q, hq0, hq⟩ := List.mem_flatMap.1 hp
      simp only [List.mem_cons, List.not_mem_nil, or_false] at hq
      rcases hq with rfl | rfl
      · unfold psK at hq0
        obtain ⟨i, _, rfl⟩ := List.mem_map.1 hq0
        have := (lvSg_ok lv _ hlv (ixK_lt lv ws (i + 1))).2
        show (sgK lv ws (i + 1)).length ≤ _
        unfold sgK
        omega
      · simp [tkN]
theorem fold_succ (lv : Nat) (ws ns : List Int) {k : Nat} (hk : 1 ≤ k) (v : Vx) : foldT (psK lv ws ns (k + 1)) v = match foldT (psK lv ws ns k) v with | none => none | some y => twoV (sgK lv ws k) y (Vx.num (ns.getD k 0)) := by
  rw [psK_succ lv ws ns hk, foldT_app]
  cases foldT (psK lv ws ns k) v with
  | none => rfl
  | some y =>
    show (match twoV (sgK lv ws k) y (Vx.num (ns.getD k 0)) with | none => none | some z => some z) = twoV (sgK lv ws k) y (Vx.num (ns.getD k 0))
    generalize twoV (sgK lv ws k) y (Vx.num (ns.getD k 0)) = q
    cases q <;> rfl
theorem twoV_ok {s : List UInt8} {a b v : Vx} (ha : a.Ok) (hb : b.Ok) (h : twoV s a b = some v) : v.Ok := by
  unfold twoV at h
  cases ho : opOf s with
  | none => rw [ho] at h; cases h
  | some q =>
    obtain ⟨i, hi, hs, hq⟩ := opOf_some ho
    rw [ho, hq] at h
    exact opG_ok hi ha hb h
theorem cell_new (u : World) (cs : Array Value) (t : TypeId) (g o : Nat) (hg : g = u.heap.size) : (u.alloc (.cells cs t)).cell? ⟨g, o, none⟩ = cs[o]? := by
  subst hg
  simp only [World.cell?]
  rw [heap_alloc_new]
  simp
/-- append of one token: nothing but the row's own block turns. -/
theorem append_tokG {ops : Array Oper} {rest : List Oper} {o : Oper} {a : Act} {Q : Exit → Act → World → Prop} (w : World) (hgd : o.guard = none) (s x : Operand)
    (ho : o.op = .call { callee := .builtin .append, args := #[s, x], argTypes := #[24, 24] })
    (base : Nat) (v : Value) (l : List TL) (k line n : Int) (t : List UInt8) (str : ByteArray) (hstr : str = St t) (hown : OwnTP w base v l) (hs : a.eval s = v) (q : Nat) (hx : a.eval x = .slice (some ⟨q, 0, none⟩) 1 1) (hq : q = w.heap.size)
    (hn : l.length + 1 ≤ 2199023255552) (hbase : base ≤ w.heap.size)
    (h : ∀ v' w', OwnTP w' base v' (l ++ [(⟨k, n, t⟩, line)]) → Turn (fun k => v.ownBlock = some k) w w' → wpList Tryz.prog ops Q rest (a.put o.dst v') w') :
    wpList Tryz.prog ops Q (o :: rest) a (w.alloc (.cells #[.int .i64 k, .int .i64 line, .int .i64 n, .string str] 37)) := by
  subst hq
  subst hstr
  obtain ⟨i0, hi, hz0, hz1', hz2⟩ := info_parts infoTP
  refine wpList_append_own _ hgd s x 24 ho base 37 i0 (.agg zeroTP) 4 40 Tryz.underlying24 hi hz0 hz1' hz2 rfl (by decide) v l.length _ hs (World.ownsRow.alloc hown _) ⟨w.heap.size, 0, none⟩ 1 1 (TL.cells (⟨k, n, t⟩, line)) hx rfl ?_ (by
    have := tlCells_one [(⟨k, n, t⟩, line)]
    simpa [tlCells] using this) (by unfold maxLen; omega) (by omega) (by simp; omega) ?_
  · intro j u hj
    rw [addr_add]
    simp only [World.cell?]
    rw [heap_alloc_new, Nat.zero_add]
    simpa [TL.cells] using hj
  · intro v' w' hown' hgrow _
    refine h v' w' ?_ ?_
    · unfold OwnTP
      rw [tlCells_append]
      simpa [tlCells] using hown'
    · exact Turn.grown ((Turn.refl (fun k => v.ownBlock = some k) w).alloc _) hgrow (fun k _ e => e)
theorem own_lt {w : World} {base : Nat} {v : Value} {l : List TL} (h : OwnTP w base v l) {k : Nat} (hk : v.ownBlock = some k) : base ≤ k ∧ k < w.heap.size := World.ownsRow.lt h k hk
/-- The signs lie in memory. -/
def SgIn (w : World) (sb lv : Nat) : Prop := ∀ i, i < (lvSg lv).length → w.cell? ⟨sb, i, none⟩ = some (.string (St ((lvSg lv).getD i [])))
theorem SgIn.bel {w w' : World} {sb lv : Nat} (h : SgIn w sb lv) (hb : Below w.heap.size w w') : SgIn w' sb lv := fun i hi => to_bel hb (h i hi)
/-- What lies there through the loop. -/
structure XF (w u : World) (sb lv B : Nat) (v : Vx) : Prop where
  bel : Below w.heap.size w u
  sg : SgIn u sb lv
  vb : VB u B v.p v.m v.n
theorem XF.turn {w u u' : World} {sb lv B : Nat} {v : Vx} (h : XF w u sb lv B v) {S : Nat → Prop} (ht : Turn S u u') (hS : ∀ k, S k → B < k) (hsb : sb < B) (hwB : w.heap.size ≤ B) : XF w u' sb lv B v := by
  refine ⟨h.bel.trans (ht.below h.bel.size (fun k e => by have := hS k e; omega)), fun i hi => ?_, h.vb.turn ht (fun e => by have := hS _ e; omega)⟩
  have h1 := h.sg i hi
  rw [← h1]
  exact World.cell?_of_block (ht.block sb (World.block_lt_of_cell? u _ h1) (fun e => by have := hS _ e; omega))
theorem XF.up {w u u' : World} {sb lv B : Nat} {v : Vx} (h : XF w u sb lv B v) (hb : Below u.heap.size u u') : XF w u' sb lv B v := ⟨bel_trans h.bel hb, h.sg.bel hb, h.vb.bel hb h.vb.lt⟩
theorem XF.set {w u : World} {sb lv B : Nat} {v : Vx} (h : XF w u sb lv B v) (hsb : sb < B) (hwB : w.heap.size ≤ B) (y : Vx) : XF w (((u.setCell ⟨B, 0, none⟩ (.string y.p)).setCell ⟨B, 1, none⟩ (.string y.m)).setCell ⟨B, 2, none⟩ (.int .i64 y.n)) sb lv B y :=
  ⟨((h.bel.setCell hwB _).setCell hwB _).setCell hwB _, fun i hi => set3_cell (by dsimp only; omega) (h.sg i hi), h.vb.set _ _ _⟩
theorem OwnTP.s3 {u : World} {base B : Nat} {v : Value} {l : List TL} (h : OwnTP u base v l) (hB : B < base) (x y z : Value) : OwnTP (((u.setCell ⟨B, 0, none⟩ x).setCell ⟨B, 1, none⟩ y).setCell ⟨B, 2, none⟩ z) base v l :=
  Turn.row (TX.set3' u B x y z) h (fun k hk e => by have := (own_lt h hk).1; omega)
theorem set3_size (u : World) (B : Nat) (x y z : Value) : (((u.setCell ⟨B, 0, none⟩ x).setCell ⟨B, 1, none⟩ y).setCell ⟨B, 2, none⟩ z).heap.size = u.heap.size := by simp [World.setCell]
/-- What the loop has come to. -/
def LV (lv : Nat) (ws ns : List Int) (k : Nat) (er : Int) (v : Vx) : Prop :=
  (k = 0 ∧ er = 0) ∨ (1 ≤ k ∧ ((er = 0 ∧ v.Ok ∧ foldT (psK lv ws ns k) (Vx.num (ns.getD 0 0)) = some v) ∨ (er = 110 ∧ foldT (psK lv ws ns k) (Vx.num (ns.getD 0 0)) = none)))

set_option maxHeartbeats 8000000 in
set_option maxRecDepth 10000 in
theorem exprLevels_walk (w : World) (hE : Er w) (ao : Option Addr) (cp : Nat) (ns : List Int) (hns : IntsAt w ao ns) (level : Int) (wo : Option Addr) (wcp : Nat) (ws : List Int) (hws : IntsAt w wo ws) (hnl : ns.length ≤ 17592186044416) (hwl : ws.length ≤ 17592186044416) :
    Calls Tryz.prog 7 #[.slice ao ns.length cp, .int .i64 level, .slice wo ws.length wcp] w fun e w' => e = .returned (.bool true) ∧ Below w.heap.size w w' := by
  obtain ⟨lv, hlv, hlvi⟩ : ∃ lv : Nat, lv < 3 ∧ (level.tmod 3 + 3).tmod 3 = (lv : Int) := by
    have h := mod_ix level 3 (by omega)
    exact ⟨((level.tmod 3 + 3).tmod 3).toNat, by omega, by omega⟩
  have hm3 := mod_ix level 3 (by omega)
  have hwr : IntKind.i64.wrap (level.tmod 3 + 3) = level.tmod 3 + 3 := by rw [IntKind.wrap_i64]; omega
  have HK : Hid (∀ W, Below w.heap.size w W → Calls Tryz.prog 14 #[] W fun e w' => e = .returned (.bool true) ∧ Below W.heap.size W w') := ⟨fun W hW => knows_any W (hE.below hW hE.sz)⟩
  have HNS : Hid _ := ⟨hns⟩
  have HWS : Hid _ := ⟨hws⟩
  have HLV : Hid _ := ⟨hlv⟩
  clear hns hws hE hm3 hlv
  go_enter Tryz.func7, Tryz.ntmps7
  go_upto_region 2 with (fail)
  go_cut [8] from 22 to 28 (fun s8 wx => ∃ sb, s8 = .slice (some ⟨sb, 0, none⟩) (lvSg lv).length (lvSg lv).length ∧ Hid (Below w.heap.size w wx ∧ SgIn wx sb lv))
  case first =>
    have hc : lv = 0 ∨ lv = 1 ∨ lv = 2 := by have := HLV.out; omega
    rcases hc with rfl | rfl | rfl
    · go_wp2_with (fail)
      go_meet
      refine ⟨_, rfl, ⟨bel_alloc (bel_alloc (bel_alloc (bel_alloc (Below.refl _ _) _) _) _) _, fun i hi => ?_⟩⟩
      have hc : i = 0 ∨ i = 1 ∨ i = 2 ∨ i = 3 := by have : i < 4 := hi; omega
      rcases hc with rfl | rfl | rfl | rfl <;> exact up_alloc (up_alloc (up_alloc (by simp; rfl) _) _) _
    · go_wp2_with (fail)
      go_meet
      refine ⟨_, rfl, ⟨bel_alloc (bel_alloc (bel_alloc (bel_alloc (Below.refl _ _) _) _) _) _, fun i hi => ?_⟩⟩
      have hc : i = 0 ∨ i = 1 ∨ i = 2 := by have : i < 3 := hi; omega
      rcases hc with rfl | rfl | rfl <;> exact up_alloc (up_alloc (by simp; rfl) _) _
    · go_wp2_with (fail)
      go_meet
      refine ⟨_, rfl, ⟨bel_alloc (bel_alloc (bel_alloc (bel_alloc (Below.refl _ _) _) _) _) _, fun i hi => ?_⟩⟩
      have hc : i = 0 ∨ i = 1 := by have : i < 2 := hi; omega
      rcases hc with rfl | rfl <;> exact up_alloc ((cell_new _ _ _ _ _ (by simp)).trans rfl) _
  case rest =>
    obtain ⟨sb, hs8, HC⟩ := hcut
    subst hs8
    have HSL : Hid _ := ⟨lvSg_len lv⟩
    have HTW : Hid (∀ (s : List UInt8), s.length ≤ 2 → ∀ (a b : Vx), a.Ok → b.Ok → ∀ W, Calls Tryz.prog 19 #[.string (St s), .agg #[.string a.p, .string a.m, .int .i64 a.n], .agg #[.string b.p, .string b.m, .int .i64 b.n]] W fun e w' => e = .returned (vE (twoV s a b)) ∧ Below W.heap.size W w') := ⟨fun s hs a b ha hb W => two_any s (by omega) a b ha hb W⟩
    have HIX : Hid (∀ k, ixK lv ws k < (lvSg lv).length ∧ (sgK lv ws k).length ≤ 2) := ⟨fun k => ⟨ixK_lt lv ws k, (lvSg_ok lv _ HLV.out (ixK_lt lv ws k)).2⟩⟩
    go_wp2_with (fail)
    have hsbl : sb < wc.heap.size := by
      have h0 := HC.out.2 0 (by have := HSL.out; omega)
      have := World.block_lt_of_cell? wc _ h0
      simpa using this
    generalize hBe : wc.heap.size = B at *
    have HS0 : Hid (Below w.heap.size w (wc.alloc zV) ∧ SgIn (wc.alloc zV) sb lv ∧ VB (wc.alloc zV) B ⟨#[]⟩ ⟨#[]⟩ 0 ∧ w.heap.size ≤ B ∧ (wc.alloc zV).heap.size = B + 1) := ⟨bel_alloc HC.out.1 _, HC.out.2.bel (bel_alloc (Below.refl _ _) _), VB.at _ _ _ _ _ hBe.symm, by rw [← hBe]; exact HC.out.1.size, by rw [← hBe]; simp⟩
    generalize wc.alloc zV = w1 at *
    clear HC hBe
    have HSB : Hid (sb < B ∧ w.heap.size ≤ B) := ⟨hsbl, HS0.out.2.2.2.1⟩
    clear hsbl
    go_loopw [9, 11, 12] (fun s9 s11 s12 wr => ∃ (k : Nat) (er : Int) (v : Vx), s12 = .int .i64 (k : Int) ∧ s11 = .int .i64 er ∧ k ≤ ns.length ∧ k ≤ 1000 ∧ Hid (OwnTP wr (B + 1) s9 (toksK lv ws ns k)) ∧ Hid (Below w.heap.size w wr ∧ SgIn wr sb lv ∧ VB wr B v.p v.m v.n ∧ LV lv ws ns k er v)) (fun s9 s11 s12 wr => ns.length - (intOf s12).toNat)
    case atStart => exact ⟨0, 0, ⟨⟨#[]⟩, ⟨#[]⟩, 0⟩, rfl, rfl, by omega, by omega, ⟨OwnTP.nil _ _⟩, ⟨HS0.out.1, HS0.out.2.1, HS0.out.2.2.1, .inl ⟨rfl, rfl⟩⟩⟩
    case round =>
      obtain ⟨k, er, v, rfl, rfl, hk1, hk2, HO, HR⟩ := hrel
      by_cases hlt : k < ns.length ∧ k < 1000
      · obtain ⟨lb, loff, e1, hlb, hc⟩ := HNS.out.at HR.out.1 hlt.1
        have HLB : Hid _ := ⟨hlb⟩
        have hlB : ¬ lb = B := by have := HSB.out; omega
        have hlB' : ¬ B = lb := by omega
        have hlw : lb < wr.heap.size := Nat.lt_of_lt_of_le hlb HR.out.1.size
        subst e1
        have hka : (k : Int) < (ns.length : Int) := by omega
        have hkb : (k : Int) < 1000 := by omega
        have hk0 : (0 : Int) ≤ (k : Int) := by omega
        have hwk : IntKind.i64.wrap ((k : Int) + 1) = ((k + 1 : Nat) : Int) := by rw [IntKind.wrap_i64]; omega
        have HKK : Hid _ := ⟨hlt⟩
        generalize hnk : ns.getD k 0 = n at *
        have HNK : Hid _ := ⟨hnk⟩
        clear hnk
        have hbs : B + 1 ≤ wr.heap.size := HR.out.2.2.1.lt
        by_cases hk : k = 0
        · subst hk
          obtain rfl : er = 0 := by rcases HR.out.2.2.2 with h | h <;> omega
          have hnot : ¬ (0 : Int) < ((0 : Nat) : Int) := by omega
          have V0 := HR.out.2.2.1
          obtain ⟨x0, x1, x2, x3⟩ := id V0
          have ll := V0.lt
          have hc' : wr.cell? ⟨lb, loff, none⟩ = some (.int .i64 n) := hc
          clear hc
          have HF0 : Hid (XF w wr sb lv B v) := ⟨HR.out.1, HR.out.2.1, HR.out.2.2.1⟩
          have hl0 : (toksK lv ws ns 0).length + 1 ≤ 2199023255552 := by simp [toksK]
          go_upto_region 18 with (fail)
          have HF8 : Hid (XF w ((((wr.setCell ⟨B, 0, none⟩ (.string ⟨#[]⟩)).setCell ⟨B, 1, none⟩ (.string ⟨#[]⟩)).setCell ⟨B, 2, none⟩ (.int .i64 n)).alloc (.cells #[.string ⟨#[]⟩, .string ⟨#[]⟩, .int .i64 n] 27)) sb lv B (Vx.num n)) := ⟨(HF0.out.set HSB.out.1 HSB.out.2 (Vx.num n)).up (bel_alloc (Below.refl _ _) _)⟩
          have HO8 : Hid _ := ⟨(HO.out.s3 (B := B) (by omega) (.string ⟨#[]⟩) (.string ⟨#[]⟩) (.int .i64 n)).bel (bel_alloc (Below.refl _ _) (.cells #[.string ⟨#[]⟩, .string ⟨#[]⟩, .int .i64 n] 27))⟩
          have hc8 := up_alloc (set3_cell (B := B) (x := .string ⟨#[]⟩) (y := .string ⟨#[]⟩) (z := .int .i64 n) hlB hc') (.cells #[.string ⟨#[]⟩, .string ⟨#[]⟩, .int .i64 n] 27)
          have hz8 : B + 1 ≤ ((((wr.setCell ⟨B, 0, none⟩ (.string ⟨#[]⟩)).setCell ⟨B, 1, none⟩ (.string ⟨#[]⟩)).setCell ⟨B, 2, none⟩ (.int .i64 n)).alloc (.cells #[.string ⟨#[]⟩, .string ⟨#[]⟩, .int .i64 n] 27)).heap.size := HF8.out.vb.lt
          generalize (((wr.setCell ⟨B, 0, none⟩ (.string ⟨#[]⟩)).setCell ⟨B, 1, none⟩ (.string ⟨#[]⟩)).setCell ⟨B, 2, none⟩ (.int .i64 n)).alloc (.cells #[.string ⟨#[]⟩, .string ⟨#[]⟩, .int .i64 n] 27) = w8 at *
          clear x0 x1 x2 x3 hc'
          go_wp2_with (at_builtin; refine append_tokG w8 rfl _ _ rfl (B + 1) _ (toksK lv ws ns 0) 2 0 n [] _ rfl HO8.out rfl _ rfl rfl hl0 hz8 ?_; intro v2 w9 ho2 hb2)
          have HF9 : Hid (XF w w9 sb lv B (Vx.num n)) := ⟨HF8.out.turn hb2 (fun k e => by have := (own_lt HO8.out e).1; omega) HSB.out.1 HSB.out.2⟩
          have HO9 : Hid (OwnTP w9 (B + 1) v2 (toksK lv ws ns 1)) := ⟨by rw [toksK_one, HNK.out]; exact ho2⟩
          go_roundw
          case rel => exact ⟨1, 0, Vx.num n, by go_num, rfl, by have := HKK.out; omega, by omega, HO9, ⟨HF9.out.bel, HF9.out.sg, HF9.out.vb, .inr ⟨by omega, .inl ⟨rfl, Vx.Ok.num n, by rw [HNK.out]; rfl⟩⟩⟩⟩
          case measure => simp [intOf]; have := HKK.out; omega
        · -- K1
          have hpos : (0 : Int) < (k : Int) := by omega
          have HF0 : Hid (XF w wr sb lv B v) := ⟨HR.out.1, HR.out.2.1, HR.out.2.2.1⟩
          have hlk : (toksK lv ws ns k).length + 1 ≤ 2199023255552 := by rw [toksK_len lv ws ns (by omega)]; omega
          have hlk2 : (toksK lv ws ns k ++ [tkS (sgK lv ws k)]).length + 1 ≤ 2199023255552 := by rw [List.length_append, toksK_len lv ws ns (by omega)]; simp; omega
          have hsk2 := (HIX.out k).2
          have hs0 := HR.out.2.1 0 (by have := HSL.out; omega)
          have hsk := HR.out.2.1 (ixK lv ws k) (HIX.out k).1
          have hsk' : wr.cell? ⟨sb, ixK lv ws k, none⟩ = some (.string (St (sgK lv ws k))) := hsk
          have hsl0 : (0 : Int) < ((lvSg lv).length : Int) := by have := HSL.out; omega
          have hix0 : (0 : Int) ≤ ((ixK lv ws k : Nat) : Int) := by omega
          have hix1 : ((ixK lv ws k : Nat) : Int) < ((lvSg lv).length : Int) := by have := (HIX.out k).1; omega
          have hsbw : sb < wr.heap.size := by have := HSB.out; have := HF0.out.vb.lt; omega
          clear hsk
          rcases HR.out.2.2.2 with ⟨h0, _⟩ | ⟨_, hst⟩
          · exact absurd h0 hk
          · by_cases hw0 : ws = []
            · have hwl0 : ¬ (0 : Int) < (ws.length : Int) := by rw [hw0]; decide
              have hsg : sgK lv ws k = (lvSg lv).getD 0 [] := by unfold sgK ixK; rw [if_pos hw0]
              rw [← hsg] at hs0
              clear hsk' hix0 hix1
              generalize hsgk : sgK lv ws k = sk at *
              have HSK : Hid _ := ⟨hsgk⟩
              clear hsgk hsg hw0
              rcases hst with ⟨her, hvo, hfd⟩ | ⟨her, hfd⟩
              · subst her
                have HFD : Hid _ := ⟨hfd⟩
                clear hfd
                have HO1 : Hid _ := ⟨HO.out.bel (bel_alloc (Below.refl _ _) (.cells #[.string ⟨#[]⟩, .string ⟨#[]⟩, .int .i64 n] 27))⟩
                go_upto_region 14 with (fail)
                have HF8 : Hid _ := ⟨HF0.out.up (bel_alloc (Below.refl _ _) (.cells #[.string ⟨#[]⟩, .string ⟨#[]⟩, .int .i64 n] 27))⟩
                have N8 := VB.new wr ⟨#[]⟩ ⟨#[]⟩ n
                have HNE : Hid (∀ k, u9.ownBlock = some k → k < wr.heap.size) := ⟨fun k e => (own_lt HO.out e).2⟩
                have hz8 : B + 1 ≤ (wr.alloc (.cells #[.string ⟨#[]⟩, .string ⟨#[]⟩, .int .i64 n] 27)).heap.size := by simp; omega
                generalize hb13 : wr.heap.size = b13 at *
                generalize wr.alloc (.cells #[.string ⟨#[]⟩, .string ⟨#[]⟩, .int .i64 n] 27) = w8 at *
                go_upto_region 15 with (at_builtin; refine append_tokG w8 rfl _ _ rfl (B + 1) _ (toksK lv ws ns k) 4 0 0 sk _ rfl HO1.out rfl _ rfl rfl hlk hz8 ?_; intro v2 w9 ho2 hb2)
                have HF9 : Hid (XF w w9 sb lv B v) := ⟨HF8.out.turn hb2 (fun k e => by have := (own_lt HO1.out e).1; omega) HSB.out.1 HSB.out.2⟩
                have N9 : VB w9 b13 ⟨#[]⟩ ⟨#[]⟩ n := N8.turn hb2 (fun e => by have := HNE.out _ e; omega)
                have HO9 : Hid _ := ⟨ho2⟩
                clear ho2 hb2
                obtain ⟨lb2, loff2, e1, _, hc9⟩ := HNS.out.at HF9.out.bel HKK.out.1
                injection e1 with e1
                injection e1 with e1a e1b
                subst e1a e1b
                rw [HNK.out] at hc9
                have hlw9 : lb < w9.heap.size := World.block_lt_of_cell? w9 _ hc9
                obtain ⟨x0, x1, x2, x3⟩ := id HF9.out.vb
                obtain ⟨d0, d1, d2, d3⟩ := id N9
                have ll9 := HF9.out.vb.lt
                obtain ⟨y, er', hy, hy2⟩ := vE_any (twoV sk v (Vx.num n))
                have HT2 : Hid (Calls Tryz.prog 19 #[.string (St sk), .agg #[.string v.p, .string v.m, .int .i64 v.n], .agg #[.string ⟨#[]⟩, .string ⟨#[]⟩, .int .i64 n]] w9 fun e w' => e = .returned (vE (twoV sk v (Vx.num n))) ∧ Below w9.heap.size w9 w') := ⟨HTW.out sk hsk2 v (Vx.num n) hvo (Vx.Ok.num n) w9⟩
                rw [hy] at HT2
                have HY : Hid _ := ⟨hy2⟩
                clear hy hy2
                go_upto_region 18 with (first
                  | (go_at_call 13; refine (num_any _ _).mono ?_; rintro e w' ⟨rfl, hw'⟩; subst w')
                  | (go_at_call 19; (with_reducible refine HT2.out.mono ?_); rintro e w10 ⟨he, hb10⟩; subst he; have V10 := HF9.out.vb.bel hb10 ll9; obtain ⟨x0, x1, x2, x3⟩ := id V10))
                have HF10 : Hid (XF w (((w10.setCell ⟨B, 0, none⟩ (.string y.p)).setCell ⟨B, 1, none⟩ (.string y.m)).setCell ⟨B, 2, none⟩ (.int .i64 y.n)) sb lv B y) := ⟨(HF9.out.up hb10).set HSB.out.1 HSB.out.2 y⟩
                have HO10 : Hid _ := ⟨(HO9.out.bel hb10).s3 (B := B) (by omega) (.string y.p) (.string y.m) (.int .i64 y.n)⟩
                have hc10 := set3_cell (B := B) (x := .string y.p) (y := .string y.m) (z := .int .i64 y.n) hlB (to_bel hb10 hc9)
                have hz10 := set3_size w10 B (.string y.p) (.string y.m) (.int .i64 y.n)
                have hbz : B + 1 ≤ (((w10.setCell ⟨B, 0, none⟩ (.string y.p)).setCell ⟨B, 1, none⟩ (.string y.m)).setCell ⟨B, 2, none⟩ (.int .i64 y.n)).heap.size := by rw [hz10]; have := hb10.size; omega
                clear hz10
                generalize ((w10.setCell ⟨B, 0, none⟩ (.string y.p)).setCell ⟨B, 1, none⟩ (.string y.m)).setCell ⟨B, 2, none⟩ (.int .i64 y.n) = w11 at *
                go_wp2_with (at_builtin; refine append_tokG w11 rfl _ _ rfl (B + 1) _ (toksK lv ws ns k ++ [tkS sk]) 2 0 n [] _ rfl HO10.out rfl _ rfl rfl hlk2 hbz ?_; intro v3 w12 ho3 hb3)
                have HF12 : Hid (XF w w12 sb lv B y) := ⟨HF10.out.turn hb3 (fun k e => by have := (own_lt HO10.out e).1; omega) HSB.out.1 HSB.out.2⟩
                have HO12 : Hid (OwnTP w12 (B + 1) v3 (toksK lv ws ns (k + 1))) := ⟨by rw [toksK_succ lv ws ns (by omega), HSK.out, HNK.out]; exact ho3⟩
                have HLX : Hid (LV lv ws ns (k + 1) er' y) := ⟨by
                  have hf := fold_succ lv ws ns (k := k) (by omega) (Vx.num (ns.getD 0 0))
                  rw [HFD.out, HNK.out, HSK.out] at hf
                  simp only at hf
                  rcases HY.out with ⟨y', h1, h2, h3⟩ | ⟨h1, h2⟩
                  · subst h2
                    rw [h1] at hf
                    exact .inr ⟨by omega, .inl ⟨h3, twoV_ok hvo (Vx.Ok.num n) h1, hf⟩⟩
                  · rw [h1] at hf
                    exact .inr ⟨by omega, .inr ⟨h2, hf⟩⟩⟩
                go_roundw
                case rel => exact ⟨k + 1, er', y, by go_num, rfl, by have := HKK.out; omega, by have := HKK.out; omega, HO12, ⟨HF12.out.bel, HF12.out.sg, HF12.out.vb, HLX.out⟩⟩
                case measure => simp [intOf]; have := HKK.out; omega
              · subst her
                have HFD : Hid _ := ⟨hfd⟩
                clear hfd
                have HO1 : Hid _ := ⟨HO.out.bel (bel_alloc (Below.refl _ _) (.cells #[.string ⟨#[]⟩, .string ⟨#[]⟩, .int .i64 n] 27))⟩
                go_upto_region 14 with (fail)
                have HF8 : Hid _ := ⟨HF0.out.up (bel_alloc (Below.refl _ _) (.cells #[.string ⟨#[]⟩, .string ⟨#[]⟩, .int .i64 n] 27))⟩
                have N8 := VB.new wr ⟨#[]⟩ ⟨#[]⟩ n
                have HNE : Hid (∀ k, u9.ownBlock = some k → k < wr.heap.size) := ⟨fun k e => (own_lt HO.out e).2⟩
                have hz8 : B + 1 ≤ (wr.alloc (.cells #[.string ⟨#[]⟩, .string ⟨#[]⟩, .int .i64 n] 27)).heap.size := by simp; omega
                generalize hb13 : wr.heap.size = b13 at *
                generalize wr.alloc (.cells #[.string ⟨#[]⟩, .string ⟨#[]⟩, .int .i64 n] 27) = w8 at *
                go_upto_region 15 with (at_builtin; refine append_tokG w8 rfl _ _ rfl (B + 1) _ (toksK lv ws ns k) 4 0 0 sk _ rfl HO1.out rfl _ rfl rfl hlk hz8 ?_; intro v2 w9 ho2 hb2)
                have HF9 : Hid (XF w w9 sb lv B v) := ⟨HF8.out.turn hb2 (fun k e => by have := (own_lt HO1.out e).1; omega) HSB.out.1 HSB.out.2⟩
                have N9 : VB w9 b13 ⟨#[]⟩ ⟨#[]⟩ n := N8.turn hb2 (fun e => by have := HNE.out _ e; omega)
                have HO9 : Hid _ := ⟨ho2⟩
                clear ho2 hb2
                obtain ⟨lb2, loff2, e1, _, hc9⟩ := HNS.out.at HF9.out.bel HKK.out.1
                injection e1 with e1
                injection e1 with e1a e1b
                subst e1a e1b
                rw [HNK.out] at hc9
                have hlw9 : lb < w9.heap.size := World.block_lt_of_cell? w9 _ hc9
                obtain ⟨x0, x1, x2, x3⟩ := id HF9.out.vb
                obtain ⟨d0, d1, d2, d3⟩ := id N9
                have ll9 := HF9.out.vb.lt
                go_upto_region 18 with (go_at_call 13; refine (num_any _ _).mono ?_; rintro e w' ⟨rfl, hw'⟩; subst w')
                go_wp2_with (at_builtin; refine append_tokG w9 rfl _ _ rfl (B + 1) _ (toksK lv ws ns k ++ [tkS sk]) 2 0 n [] _ rfl HO9.out rfl _ rfl rfl hlk2 (by omega) ?_; intro v3 w12 ho3 hb3)
                have HF12 : Hid (XF w w12 sb lv B v) := ⟨HF9.out.turn hb3 (fun k e => by have := (own_lt HO9.out e).1; omega) HSB.out.1 HSB.out.2⟩
                have HO12 : Hid (OwnTP w12 (B + 1) v3 (toksK lv ws ns (k + 1))) := ⟨by rw [toksK_succ lv ws ns (by omega), HSK.out, HNK.out]; exact ho3⟩
                have HLX : Hid (LV lv ws ns (k + 1) 110 v) := ⟨by
                  have hf := fold_succ lv ws ns (k := k) (by omega) (Vx.num (ns.getD 0 0))
                  rw [HFD.out] at hf
                  exact .inr ⟨by omega, .inr ⟨rfl, hf⟩⟩⟩
                go_roundw
                case rel => exact ⟨k + 1, 110, v, by go_num, rfl, by have := HKK.out; omega, by have := HKK.out; omega, HO12, ⟨HF12.out.bel, HF12.out.sg, HF12.out.vb, HLX.out⟩⟩
                case measure => simp [intOf]; have := HKK.out; omega
            · have hwpos : 0 < ws.length := List.length_pos_iff.2 hw0
              have hwl0 : (0 : Int) < (ws.length : Int) := by omega
              have hwne : ¬ (ws.length : Int) = 0 := by omega
              have hslne : ¬ ((lvSg lv).length : Int) = 0 := by omega
              have hkm : Int.tmod (k : Int) (ws.length : Int) = ((k % ws.length : Nat) : Int) := by rw [Int.tmod_eq_emod_of_nonneg (by omega)]; exact (Int.natCast_emod k ws.length).symm
              have hkml : k % ws.length < ws.length := Nat.mod_lt _ hwpos
              have hkm0 : (0 : Int) ≤ ((k % ws.length : Nat) : Int) := by omega
              have hkm1 : ((k % ws.length : Nat) : Int) < (ws.length : Int) := by omega
              obtain ⟨wb, woff, e2, hwb, hwc⟩ := HWS.out.at HR.out.1 hkml
              subst e2
              have hmx := mod_ix (ws.getD (k % ws.length) 0) ((lvSg lv).length : Int) hsl0
              have hixe : ((ws.getD (k % ws.length) 0).tmod ((lvSg lv).length : Int) + ((lvSg lv).length : Int)).tmod ((lvSg lv).length : Int) = ((ixK lv ws k : Nat) : Int) := by unfold ixK; rw [if_neg hw0]; omega
              have hwrx : IntKind.i64.wrap ((ws.getD (k % ws.length) 0).tmod ((lvSg lv).length : Int) + ((lvSg lv).length : Int)) = (ws.getD (k % ws.length) 0).tmod ((lvSg lv).length : Int) + ((lvSg lv).length : Int) := by rw [IntKind.wrap_i64]; have := HSL.out; omega
              have hwbw : wb < wr.heap.size := World.block_lt_of_cell? wr _ hwc
              generalize ws.getD (k % ws.length) 0 = z at *
              generalize k % ws.length = km at *
              generalize hsgk : sgK lv ws k = sk at *
              have HSK : Hid _ := ⟨hsgk⟩
              clear hsgk hw0
              generalize ixK lv ws k = ik at *
              clear hmx
              rcases hst with ⟨her, hvo, hfd⟩ | ⟨her, hfd⟩
              · subst her
                have HFD : Hid _ := ⟨hfd⟩
                clear hfd
                have HO1 : Hid _ := ⟨HO.out.bel (bel_alloc (Below.refl _ _) (.cells #[.string ⟨#[]⟩, .string ⟨#[]⟩, .int .i64 n] 27))⟩
                go_upto_region 14 with (fail)
                have HF8 : Hid _ := ⟨HF0.out.up (bel_alloc (Below.refl _ _) (.cells #[.string ⟨#[]⟩, .string ⟨#[]⟩, .int .i64 n] 27))⟩
                have N8 := VB.new wr ⟨#[]⟩ ⟨#[]⟩ n
                have HNE : Hid (∀ k, u9.ownBlock = some k → k < wr.heap.size) := ⟨fun k e => (own_lt HO.out e).2⟩
                have hz8 : B + 1 ≤ (wr.alloc (.cells #[.string ⟨#[]⟩, .string ⟨#[]⟩, .int .i64 n] 27)).heap.size := by simp; omega
                generalize hb13 : wr.heap.size = b13 at *
                generalize wr.alloc (.cells #[.string ⟨#[]⟩, .string ⟨#[]⟩, .int .i64 n] 27) = w8 at *
                go_upto_region 15 with (at_builtin; refine append_tokG w8 rfl _ _ rfl (B + 1) _ (toksK lv ws ns k) 4 0 0 sk _ rfl HO1.out rfl _ rfl rfl hlk hz8 ?_; intro v2 w9 ho2 hb2)
                have HF9 : Hid (XF w w9 sb lv B v) := ⟨HF8.out.turn hb2 (fun k e => by have := (own_lt HO1.out e).1; omega) HSB.out.1 HSB.out.2⟩
                have N9 : VB w9 b13 ⟨#[]⟩ ⟨#[]⟩ n := N8.turn hb2 (fun e => by have := HNE.out _ e; omega)
                have HO9 : Hid _ := ⟨ho2⟩
                clear ho2 hb2
                obtain ⟨lb2, loff2, e1, _, hc9⟩ := HNS.out.at HF9.out.bel HKK.out.1
                injection e1 with e1
                injection e1 with e1a e1b
                subst e1a e1b
                rw [HNK.out] at hc9
                have hlw9 : lb < w9.heap.size := World.block_lt_of_cell? w9 _ hc9
                obtain ⟨x0, x1, x2, x3⟩ := id HF9.out.vb
                obtain ⟨d0, d1, d2, d3⟩ := id N9
                have ll9 := HF9.out.vb.lt
                obtain ⟨y, er', hy, hy2⟩ := vE_any (twoV sk v (Vx.num n))
                have HT2 : Hid (Calls Tryz.prog 19 #[.string (St sk), .agg #[.string v.p, .string v.m, .int .i64 v.n], .agg #[.string ⟨#[]⟩, .string ⟨#[]⟩, .int .i64 n]] w9 fun e w' => e = .returned (vE (twoV sk v (Vx.num n))) ∧ Below w9.heap.size w9 w') := ⟨HTW.out sk hsk2 v (Vx.num n) hvo (Vx.Ok.num n) w9⟩
                rw [hy] at HT2
                have HY : Hid _ := ⟨hy2⟩
                clear hy hy2
                go_upto_region 18 with (first
                  | (go_at_call 13; refine (num_any _ _).mono ?_; rintro e w' ⟨rfl, hw'⟩; subst w')
                  | (go_at_call 19; (with_reducible refine HT2.out.mono ?_); rintro e w10 ⟨he, hb10⟩; subst he; have V10 := HF9.out.vb.bel hb10 ll9; obtain ⟨x0, x1, x2, x3⟩ := id V10))
                have HF10 : Hid (XF w (((w10.setCell ⟨B, 0, none⟩ (.string y.p)).setCell ⟨B, 1, none⟩ (.string y.m)).setCell ⟨B, 2, none⟩ (.int .i64 y.n)) sb lv B y) := ⟨(HF9.out.up hb10).set HSB.out.1 HSB.out.2 y⟩
                have HO10 : Hid _ := ⟨(HO9.out.bel hb10).s3 (B := B) (by omega) (.string y.p) (.string y.m) (.int .i64 y.n)⟩
                have hc10 := set3_cell (B := B) (x := .string y.p) (y := .string y.m) (z := .int .i64 y.n) hlB (to_bel hb10 hc9)
                have hz10 := set3_size w10 B (.string y.p) (.string y.m) (.int .i64 y.n)
                have hbz : B + 1 ≤ (((w10.setCell ⟨B, 0, none⟩ (.string y.p)).setCell ⟨B, 1, none⟩ (.string y.m)).setCell ⟨B, 2, none⟩ (.int .i64 y.n)).heap.size := by rw [hz10]; have := hb10.size; omega
                clear hz10
                generalize ((w10.setCell ⟨B, 0, none⟩ (.string y.p)).setCell ⟨B, 1, none⟩ (.string y.m)).setCell ⟨B, 2, none⟩ (.int .i64 y.n) = w11 at *
                go_wp2_with (at_builtin; refine append_tokG w11 rfl _ _ rfl (B + 1) _ (toksK lv ws ns k ++ [tkS sk]) 2 0 n [] _ rfl HO10.out rfl _ rfl rfl hlk2 hbz ?_; intro v3 w12 ho3 hb3)
                have HF12 : Hid (XF w w12 sb lv B y) := ⟨HF10.out.turn hb3 (fun k e => by have := (own_lt HO10.out e).1; omega) HSB.out.1 HSB.out.2⟩
                have HO12 : Hid (OwnTP w12 (B + 1) v3 (toksK lv ws ns (k + 1))) := ⟨by rw [toksK_succ lv ws ns (by omega), HSK.out, HNK.out]; exact ho3⟩
                have HLX : Hid (LV lv ws ns (k + 1) er' y) := ⟨by
                  have hf := fold_succ lv ws ns (k := k) (by omega) (Vx.num (ns.getD 0 0))
                  rw [HFD.out, HNK.out, HSK.out] at hf
                  simp only at hf
                  rcases HY.out with ⟨y', h1, h2, h3⟩ | ⟨h1, h2⟩
                  · subst h2
                    rw [h1] at hf
                    exact .inr ⟨by omega, .inl ⟨h3, twoV_ok hvo (Vx.Ok.num n) h1, hf⟩⟩
                  · rw [h1] at hf
                    exact .inr ⟨by omega, .inr ⟨h2, hf⟩⟩⟩
                go_roundw
                case rel => exact ⟨k + 1, er', y, by go_num, rfl, by have := HKK.out; omega, by have := HKK.out; omega, HO12, ⟨HF12.out.bel, HF12.out.sg, HF12.out.vb, HLX.out⟩⟩
                case measure => simp [intOf]; have := HKK.out; omega
              · subst her
                have HFD : Hid _ := ⟨hfd⟩
                clear hfd
                have HO1 : Hid _ := ⟨HO.out.bel (bel_alloc (Below.refl _ _) (.cells #[.string ⟨#[]⟩, .string ⟨#[]⟩, .int .i64 n] 27))⟩
                go_upto_region 14 with (fail)
                have HF8 : Hid _ := ⟨HF0.out.up (bel_alloc (Below.refl _ _) (.cells #[.string ⟨#[]⟩, .string ⟨#[]⟩, .int .i64 n] 27))⟩
                have N8 := VB.new wr ⟨#[]⟩ ⟨#[]⟩ n
                have HNE : Hid (∀ k, u9.ownBlock = some k → k < wr.heap.size) := ⟨fun k e => (own_lt HO.out e).2⟩
                have hz8 : B + 1 ≤ (wr.alloc (.cells #[.string ⟨#[]⟩, .string ⟨#[]⟩, .int .i64 n] 27)).heap.size := by simp; omega
                generalize hb13 : wr.heap.size = b13 at *
                generalize wr.alloc (.cells #[.string ⟨#[]⟩, .string ⟨#[]⟩, .int .i64 n] 27) = w8 at *
                go_upto_region 15 with (at_builtin; refine append_tokG w8 rfl _ _ rfl (B + 1) _ (toksK lv ws ns k) 4 0 0 sk _ rfl HO1.out rfl _ rfl rfl hlk hz8 ?_; intro v2 w9 ho2 hb2)
                have HF9 : Hid (XF w w9 sb lv B v) := ⟨HF8.out.turn hb2 (fun k e => by have := (own_lt HO1.out e).1; omega) HSB.out.1 HSB.out.2⟩
                have N9 : VB w9 b13 ⟨#[]⟩ ⟨#[]⟩ n := N8.turn hb2 (fun e => by have := HNE.out _ e; omega)
                have HO9 : Hid _ := ⟨ho2⟩
                clear ho2 hb2
                obtain ⟨lb2, loff2, e1, _, hc9⟩ := HNS.out.at HF9.out.bel HKK.out.1
                injection e1 with e1
                injection e1 with e1a e1b
                subst e1a e1b
                rw [HNK.out] at hc9
                have hlw9 : lb < w9.heap.size := World.block_lt_of_cell? w9 _ hc9
                obtain ⟨x0, x1, x2, x3⟩ := id HF9.out.vb
                obtain ⟨d0, d1, d2, d3⟩ := id N9
                have ll9 := HF9.out.vb.lt
                go_upto_region 18 with (go_at_call 13; refine (num_any _ _).mono ?_; rintro e w' ⟨rfl, hw'⟩; subst w')
                go_wp2_with (at_builtin; refine append_tokG w9 rfl _ _ rfl (B + 1) _ (toksK lv ws ns k ++ [tkS sk]) 2 0 n [] _ rfl HO9.out rfl _ rfl rfl hlk2 (by omega) ?_; intro v3 w12 ho3 hb3)
                have HF12 : Hid (XF w w12 sb lv B v) := ⟨HF9.out.turn hb3 (fun k e => by have := (own_lt HO9.out e).1; omega) HSB.out.1 HSB.out.2⟩
                have HO12 : Hid (OwnTP w12 (B + 1) v3 (toksK lv ws ns (k + 1))) := ⟨by rw [toksK_succ lv ws ns (by omega), HSK.out, HNK.out]; exact ho3⟩
                have HLX : Hid (LV lv ws ns (k + 1) 110 v) := ⟨by
                  have hf := fold_succ lv ws ns (k := k) (by omega) (Vx.num (ns.getD 0 0))
                  rw [HFD.out] at hf
                  exact .inr ⟨by omega, .inr ⟨rfl, hf⟩⟩⟩
                go_roundw
                case rel => exact ⟨k + 1, 110, v, by go_num, rfl, by have := HKK.out; omega, by have := HKK.out; omega, HO12, ⟨HF12.out.bel, HF12.out.sg, HF12.out.vb, HLX.out⟩⟩
                case measure => simp [intOf]; have := HKK.out; omega
      · obtain ⟨ao9, cp9, hv9, _, _, ht9, _⟩ := OwnTP.any HO.out
        subst hv9
        have hknd : Hid (∀ i, i < (toksK lv ws ns k).length → ¬ ((toksK lv ws ns k).getD i TL.none).1.k = 1) := ⟨fun i hi => by
          rw [getD_at _ _ hi]
          have := toksK_kind lv ws ns k _ (List.getElem_mem hi)
          rcases this with h | h <;> omega⟩
        have HIN : Hid (EvIn wr ao9 (toksK lv ws ns k) none []) := ⟨⟨ht9, .inl rfl, by
          by_cases h0 : k = 0
          · subst h0; simp [toksK]
          · rw [toksK_len lv ws ns (by omega)]; omega, fun p hp => toksK_text lv HLV.out ws ns k p hp, fun d hd => by cases hd⟩⟩
        have HEV : Hid (Calls Tryz.prog 9 #[.slice ao9 (toksK lv ws ns k).length cp9, .int .i64 0, .slice none 0 0] wr fun e w' => e = .returned (evE (evI [] (toksK lv ws ns k) 0)) ∧ Below wr.heap.size wr w') := ⟨xEval_any wr ao9 none cp9 0 (toksK lv ws ns k) [] 0 HIN.out (fun rb mb => name_none _ hknd.out)⟩
        clear ht9 hknd HIN
        have hcond : (¬ (k : Int) < (ns.length : Int)) ∨ ((k : Int) < (ns.length : Int) ∧ ¬ (k : Int) < 1000) := by omega
        rcases HR.out.2.2.2 with ⟨hk, her⟩ | ⟨hk, hst⟩
        · subst hk
          have hl : (toksK lv ws ns 0).length = 0 := by simp [toksK]
          rw [hl]
          rcases hcond with hcond | ⟨hc1, hcond⟩
          · go_wp2_with (go_at_call 14; (with_reducible refine (HK.out _ HR.out.1).mono ?_); rintro e w4 ⟨he, hb4⟩; subst he)
            go_ret
            exact ⟨rfl, bel_trans HR.out.1 hb4⟩
          · exact absurd hcond (by omega)
        · have hll : (toksK lv ws ns k).length = 2 * k - 1 := toksK_len lv ws ns hk
          have hev : evI [] (toksK lv ws ns k) 0 = rE (foldT (psK lv ws ns k) (Vx.num (ns.getD 0 0))) (toksK lv ws ns k).length := by
            have := levels_eval (ns.getD 0 0) (psK lv ws ns k) lv HLV.out (psK_lv lv HLV.out ws ns k)
            unfold toksK
            rw [if_neg (by omega)]
            exact this
          rw [hev] at HEV
          generalize (toksK lv ws ns k).length = ll at *
          have hll0 : ((ll : Int) == 0) = false := by
            have : ¬ (ll : Int) = 0 := by omega
            simpa using this
          obtain ⟨x0, x1, x2, x3⟩ := id HR.out.2.2.1
          clear hev hll
          rcases hst with ⟨her, hvo, hfd⟩ | ⟨her, hfd⟩
          · subst her
            rw [hfd] at HEV
            have HEV2 : Hid (Calls Tryz.prog 9 #[.slice ao9 ll cp9, .int .i64 0, .slice none 0 0] wr fun e w' => e = .returned (.tuple #[.agg #[.string v.p, .string v.m, .int .i64 v.n], .int .i64 (ll : Int), .int .i64 0]) ∧ Below wr.heap.size wr w') := ⟨HEV.out⟩
            have heq := eqlV v.p v.m v.p v.m v.n v.n
            have e1 : (v.p.toList == v.p.toList && (v.m.toList == v.m.toList && (v.n == v.n && true))) = true := by simp
            rw [e1] at heq
            clear HEV e1 hfd
            rcases hcond with hcond | ⟨hc1, hcond⟩
            · go_wp2_with (first
                | (go_at_call 14; (with_reducible refine (HK.out _ HB5.out).mono ?_); rintro e w6 ⟨he, hb6⟩; subst he)
                | (go_at_call 9; (with_reducible refine HEV2.out.mono ?_); rintro e w5 ⟨he, hb5⟩; subst he; have V5 := HR.out.2.2.1.bel hb5 HR.out.2.2.1.lt; obtain ⟨x0, x1, x2, x3⟩ := id V5; have l5 := V5.lt; have HB5 : Hid _ := ⟨bel_alloc (bel_trans HR.out.1 hb5) (.cells #[.string v.p, .string v.m, .int .i64 v.n] 27)⟩)
                | (go_at_call 13; refine (num_any _ _).mono ?_; rintro e w' ⟨rfl, hw'⟩; subst w'))
              go_ret
              exact ⟨rfl, bel_trans HB5.out hb6⟩
            · go_wp2_with (first
                | (go_at_call 14; (with_reducible refine (HK.out _ HB5.out).mono ?_); rintro e w6 ⟨he, hb6⟩; subst he)
                | (go_at_call 9; (with_reducible refine HEV2.out.mono ?_); rintro e w5 ⟨he, hb5⟩; subst he; have V5 := HR.out.2.2.1.bel hb5 HR.out.2.2.1.lt; obtain ⟨x0, x1, x2, x3⟩ := id V5; have l5 := V5.lt; have HB5 : Hid _ := ⟨bel_alloc (bel_trans HR.out.1 hb5) (.cells #[.string v.p, .string v.m, .int .i64 v.n] 27)⟩)
                | (go_at_call 13; refine (num_any _ _).mono ?_; rintro e w' ⟨rfl, hw'⟩; subst w'))
              go_ret
              exact ⟨rfl, bel_trans HB5.out hb6⟩
          · subst her
            rw [hfd] at HEV
            have HEV2 : Hid (Calls Tryz.prog 9 #[.slice ao9 ll cp9, .int .i64 0, .slice none 0 0] wr fun e w' => e = .returned (.tuple #[.agg #[.string ⟨#[]⟩, .string ⟨#[]⟩, .int .i64 0], .int .i64 0, .int .i64 110]) ∧ Below wr.heap.size wr w') := ⟨HEV.out⟩
            clear HEV hfd
            rcases hcond with hcond | ⟨hc1, hcond⟩
            · go_wp2_with (first
                | (go_at_call 14; (with_reducible refine (HK.out _ HB5.out).mono ?_); rintro e w6 ⟨he, hb6⟩; subst he)
                | (go_at_call 9; (with_reducible refine HEV2.out.mono ?_); rintro e w5 ⟨he, hb5⟩; subst he; have V5 := HR.out.2.2.1.bel hb5 HR.out.2.2.1.lt; obtain ⟨x0, x1, x2, x3⟩ := id V5; have l5 := V5.lt; have HB5 : Hid _ := ⟨bel_alloc (bel_trans HR.out.1 hb5) (.cells #[.string ⟨#[]⟩, .string ⟨#[]⟩, .int .i64 0] 27)⟩)
                | (go_at_call 13; refine (num_any _ _).mono ?_; rintro e w' ⟨rfl, hw'⟩; subst w'))
              go_ret
              exact ⟨rfl, bel_trans HB5.out hb6⟩
            · go_wp2_with (first
                | (go_at_call 14; (with_reducible refine (HK.out _ HB5.out).mono ?_); rintro e w6 ⟨he, hb6⟩; subst he)
                | (go_at_call 9; (with_reducible refine HEV2.out.mono ?_); rintro e w5 ⟨he, hb5⟩; subst he; have V5 := HR.out.2.2.1.bel hb5 HR.out.2.2.1.lt; obtain ⟨x0, x1, x2, x3⟩ := id V5; have l5 := V5.lt; have HB5 : Hid _ := ⟨bel_alloc (bel_trans HR.out.1 hb5) (.cells #[.string ⟨#[]⟩, .string ⟨#[]⟩, .int .i64 0] 27)⟩)
                | (go_at_call 13; refine (num_any _ _).mono ?_; rintro e w' ⟨rfl, hw'⟩; subst w'))
              go_ret
              exact ⟨rfl, bel_trans HB5.out hb6⟩
end Go.Proofs.YtljmbgflcidokaaGreatDoor
