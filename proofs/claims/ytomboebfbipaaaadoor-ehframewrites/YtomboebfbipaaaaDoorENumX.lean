/- Encodings of pointers, plainly. What both read of any bytes, in every form. The map of encodings; an encoding. -/
import Derived.Test.YtomboebfbipaaaaDoorCPlain
import Derived.Test.YtomboebfbipaaaaDoorLebB
import Derived.Test.YtomboebfbipaaaaDoorLebC
import Derived.Test.YtomboebfbipaaaaDoorLebA
import Derived.Laws.BitsLemmas
import Derived.Test.YtomboebfbipaaaaDoorCMem
import Derived.Maps.OwnSet
import Derived.Maps.OwnOps
namespace Go.Proofs.YtomboebfbipaaaaDoor
open Go.ChangeShapes Go.WideShapes Go.ChangeAt Go.RowKit
open Go.ChangeShapes Go.WideShapes Go.ChangeAt Go.RowKit Go.Maps
set_option linter.unusedVariables false
set_option linter.unusedSimpArgs false

/-- A form: its bytes, whether it has a sign, whether it stands in groups. -/
def fSize (f : Int) : Nat := if f = 2 ∨ f = 10 then 2 else if f = 3 ∨ f = 11 then 4 else 8
def fSg (f : Int) : Bool := decide (f = 0) || decide (9 ≤ f)
def fGr (f : Int) : Bool := decide (f = 1) || decide (f = 9)
def fOk (f : Int) : Bool := (decide (0 ≤ f) && decide (f ≤ 4)) || (decide (9 ≤ f) && decide (f ≤ 12))
def eFrom (enc : Int) : Int := enc - enc % 16
def encB (enc : Int) : Bool := fOk (enc % 16) && (eFrom enc == 0 || (eFrom enc == 16 || eFrom enc == 48))
/-- Is it beyond 2^60? -/
def awayB (x : Int) : Bool := decide (x < -1152921504606846976) || decide (1152921504606846976 < x)
def baseV (enc at' data : Int) : Int := if eFrom enc = 16 then at' else if eFrom enc = 48 then data else 0
def holdB (f n : Int) : Bool := !awayB n && fitsB n (8 * (fSize f : Int)) (fSg f)
def putE (enc v at' data : Int) : Int :=
  if encB enc = false then 140 else if (awayB v || (awayB at' || awayB data)) = true then 11 else if holdB (enc % 16) (v - baseV enc at' data) = false then 11 else 0
def putF (f n : Int) : List Int := if fGr f then (if fSg f then sl n else ul n.toNat) else pl n (fSize f)
def putL (enc v at' data : Int) : List Int := if putE enc v at' data = 0 then putF (enc % 16) (v - baseV enc at' data) else []

theorem and15 (n : Int) : bits .and .i64 n 15 = n % 16 := by
  have h15 : (BitVec.ofInt 64 15).toNat = 2 ^ 4 - 1 := by decide
  have key : (BitVec.ofInt 64 n &&& BitVec.ofInt 64 15).toNat = (n % ((2 ^ 64 : Nat) : Int)).toNat % 2 ^ 4 := by
    rw [BitVec.toNat_and, BitVec.toNat_ofInt, h15, Nat.and_two_pow_sub_one_eq_mod]
  show IntKind.i64.wrap ((BitVec.ofInt 64 n &&& BitVec.ofInt 64 15).toNat : Nat) = n % 16
  rw [key, IntKind.wrap_i64]
  omega
theorem forms_of {f : Int} (h : fOk f = true) : f = 0 ∨ f = 1 ∨ f = 2 ∨ f = 3 ∨ f = 4 ∨ f = 9 ∨ f = 10 ∨ f = 11 ∨ f = 12 := by
  simp [fOk] at h; omega
theorem forms_not {f : Int} (h : fOk f = false) (h0 : 0 ≤ f) (h1 : f < 16) : f = 5 ∨ f = 6 ∨ f = 7 ∨ f = 8 ∨ f = 13 ∨ f = 14 ∨ f = 15 := by
  simp [fOk] at h; omega
theorem enc_of {enc : Int} (h : encB enc = true) : fOk (enc % 16) = true ∧ (eFrom enc = 0 ∨ eFrom enc = 16 ∨ eFrom enc = 48) ∧ enc = eFrom enc + enc % 16 ∧ 0 ≤ enc ∧ enc ≤ 60 := by
  simp [encB] at h
  have e : enc = eFrom enc + enc % 16 := by unfold eFrom; omega
  have := forms_of h.1
  exact ⟨h.1, h.2, e, by omega, by omega⟩
theorem base_in {enc at' data : Int} (h1 : awayB at' = false) (h2 : awayB data = false) : awayB (baseV enc at' data) = false := by
  unfold baseV; split
  · exact h1
  · split
    · exact h2
    · rfl
theorem away_of {x : Int} (h : awayB x = false) : -1152921504606846976 ≤ x ∧ x ≤ 1152921504606846976 := by
  simp [awayB] at h; omega

/-- What was read, in a form: a number of 64 bits, in its form's room. -/
structure Rd (f : Int) (len : Nat) (t x i g : Int) : Prop where
  x0 : -9223372036854775808 ≤ x
  x1 : x ≤ 9223372036854775807
  g0 : -1000 ≤ g
  g1 : g ≤ 1000
  in' : g = 0 → 0 ≤ t ∧ t ≤ len ∧ 0 ≤ i ∧ i ≤ len ∧ fitsB x (8 * (fSize f : Int)) (fSg f) = (fSg f || decide (0 ≤ x))

theorem wrap_inE (n : Int) : -9223372036854775808 ≤ wrap64 n ∧ wrap64 n ≤ 9223372036854775807 := by
  unfold wrap64; omega
theorem fits_64s {x : Int} (h0 : -9223372036854775808 ≤ x) (h1 : x ≤ 9223372036854775807) : fitsB x 64 true = true := by
  have e : (2 : Int) ^ ((64 : Int).toNat - 1) = 9223372036854775808 := by decide
  simp [fitsB, e]; omega
theorem fits_64u {x : Int} (h1 : x ≤ 9223372036854775807) : fitsB x 64 false = decide (0 ≤ x) := by
  have e : (2 : Int) ^ (64 : Int).toNat = 18446744073709551616 := by decide
  have : x < 18446744073709551616 := by omega
  simp [fitsB, e, this]
theorem gval_in (bs : Nat → Int) (hbs : ∀ i, 0 ≤ bs i ∧ bs i < 256) (a s : Nat) (hs : s = 2 ∨ s = 4 ∨ s = 8) (sg : Bool) :
    -9223372036854775808 ≤ gval bs a s sg ∧ gval bs a s sg ≤ 9223372036854775807 ∧ fitsB (gval bs a s sg) (8 * (s : Int)) sg = (sg || decide (0 ≤ gval bs a s sg)) := by
  have hb := bacc_in bs hbs a s
  cases sg
  · rw [gv_plain]
    have hw := wrap_inE (bacc bs a s)
    refine ⟨hw.1, hw.2, ?_⟩
    rcases hs with rfl | rfl | rfl
    · have e : wrap64 (bacc bs a 2) = bacc bs a 2 := by have := hb.2; simp at this; unfold wrap64; omega
      rw [e]
      have h1 : bacc bs a 2 < 2 ^ (8 * ((2 : Nat) : Int)).toNat := hb.2
      simp [fitsB, hb.1]; exact h1
    · have e : wrap64 (bacc bs a 4) = bacc bs a 4 := by have := hb.2; simp at this; unfold wrap64; omega
      rw [e]
      have h1 : bacc bs a 4 < 2 ^ (8 * ((4 : Nat) : Int)).toNat := hb.2
      simp [fitsB, hb.1]; exact h1
    · exact fits_64u hw.2
  · have e : gval bs a s true = sx (8 * s) (bacc bs a s) := rfl
    rw [e]
    have hx := sx_in (8 * s) (by omega) (bacc bs a s)
    rcases hs with rfl | rfl | rfl
    · have p : (2 : Int) ^ (8 * 2 - 1) = 32768 := by decide
      rw [p] at hx
      have q : (2 : Int) ^ ((8 * ((2 : Nat) : Int)).toNat - 1) = 32768 := by decide
      refine ⟨by omega, by omega, ?_⟩
      simp [fitsB]; omega
    · have p : (2 : Int) ^ (8 * 4 - 1) = 2147483648 := by decide
      rw [p] at hx
      have q : (2 : Int) ^ ((8 * ((4 : Nat) : Int)).toNat - 1) = 2147483648 := by decide
      refine ⟨by omega, by omega, ?_⟩
      simp [fitsB]; omega
    · have p : (2 : Int) ^ (8 * 8 - 1) = 9223372036854775808 := by decide
      rw [p] at hx
      exact ⟨by omega, by omega, fits_64s (by omega) (by omega)⟩

/-- A number of so many bytes. -/
theorem getF (f : Int) (hf : fOk f = true) (hg : fGr f = false) (len : Nat) (bs : Nat → Int) (t : Int) (hbs : ∀ i, 0 ≤ bs i ∧ bs i < 256) (hl : len ≤ 140737488355328) (ht : t ≤ 9223372036854775807) :
    ∃ x g : Int, Rd f len t x (if g = 0 then t + fSize f else 0) g ∧ (∀ ao cap w, Row w ao len bs → Calls Tryd.prog 57 #[.slice ao len cap, .int .i64 t, .int .i64 (fSize f : Int), .bool (fSg f)] w fun e w' => e = .returned (.tuple #[.int .i64 x, .int .i64 g]) ∧ Below w.heap.size w w') ∧
      (∀ ao cap w, Row w ao len bs → Calls Tryd.prog 35 #[.slice ao len cap, .int .i64 t, .int .i64 (fSize f : Int), .bool (fSg f)] w fun e w' => e = .returned (.tuple #[.int .i64 x, .int .i64 g]) ∧ w' = w) := by
  have hz : fSize f = 2 ∨ fSize f = 4 ∨ fSize f = 8 := by
    unfold fSize
    split
    · omega
    · split <;> omega
  generalize hS : fSize f = S at *
  have hs' : (S : Int) = 1 ∨ (S : Int) = 2 ∨ (S : Int) = 4 ∨ (S : Int) = 8 := by omega
  by_cases h : t < 0 ∨ (len : Int) - t < (S : Int)
  · exact ⟨0, 20, ⟨by omega, by omega, by omega, by omega, fun e => absurd e (by omega)⟩, fun ao cap w _ => get_end ao len cap t S (fSg f) w hl ht hs' h, fun ao cap w _ => rget_end ao len cap t S (fSg f) w hl hs' h⟩
  · obtain ⟨a, rfl⟩ := Int.eq_ofNat_of_zero_le (show 0 ≤ t by omega)
    have hi := gval_in bs hbs a S hz (fSg f)
    refine ⟨_, 0, ⟨hi.1, hi.2.1, by omega, by omega, fun _ => ⟨by omega, by omega, by rw [if_pos rfl]; omega, by rw [if_pos rfl]; omega, by rw [hS]; exact hi.2.2⟩⟩, fun ao cap w hr => get_ok ao len cap a S (fSg f) bs w hr hbs hl (by omega) (by omega), fun ao cap w hr => rget_ok ao len cap a S (fSg f) bs w hr hbs hl (by omega) (by omega)⟩

theorem sval_in (bs : Nat → Int) (a c : Nat) (hc : 1 ≤ c) : -9223372036854775808 ≤ sval bs a c ∧ sval bs a c ≤ 9223372036854775807 := by
  unfold sval
  have h := sx_in (min (7 * c) 64) (by omega) (uacc bs a c)
  have hp : (2 : Int) ^ (min (7 * c) 64 - 1) ≤ 2 ^ 63 := pow_le_i (by omega)
  have e : (2 : Int) ^ 63 = 9223372036854775808 := by decide
  omega

/-- A number in groups. -/
theorem readUF (len : Nat) (bs : Nat → Int) (t : Int) (hbs : ∀ i, 0 ≤ bs i ∧ bs i < 256) (hl : len ≤ 140737488355328) (ht : t ≤ 9223372036854775807) :
    ∃ x i g : Int, Rd 1 len t x i g ∧ (∀ ao cap w, Row w ao len bs → Calls Tryd.prog 59 #[.slice ao len cap, .int .i64 t] w fun e w' => e = .returned (.tuple #[.int .i64 x, .int .i64 i, .int .i64 g]) ∧ Below w.heap.size w w') ∧
      (∀ ao cap w, Row w ao len bs → Calls Tryd.prog 33 #[.slice ao len cap, .int .i64 t] w fun e w' => e = .returned (.tuple #[.int .i64 x, .int .i64 i, .int .i64 g]) ∧ w' = w) := by
  rcases sorts len bs t with h | h | ⟨a, c, rfl, h⟩
  · exact ⟨0, 0, 20, ⟨by omega, by omega, by omega, by omega, fun e => absurd e (by omega)⟩, fun ao cap w hr => readU_fin ao len cap bs t w hr hl ht h, fun ao cap w hr => rreadU_fin ao len cap bs t w hr hl h⟩
  · exact ⟨0, 0, 21, ⟨by omega, by omega, by omega, by omega, fun e => absurd e (by omega)⟩, fun ao cap w hr => readU_lng ao len cap bs t w hr hl h, fun ao cap w hr => rreadU_lng ao len cap bs t w hr hl h⟩
  · by_cases hb : c = 10 ∧ ¬ (bs (a + 9) ≤ 1)
    · obtain ⟨rfl, hb⟩ := hb
      exact ⟨0, 0, 21, ⟨by omega, by omega, by omega, by omega, fun e => absurd e (by omega)⟩, fun ao cap w hr => readU_bad ao len cap a bs w hr hbs hl h hb, fun ao cap w hr => rreadU_bad ao len cap a bs w hr hl h hb⟩
    · have hb' : c = 10 → bs (a + 9) ≤ 1 := fun e => Classical.byContradiction fun hn => hb ⟨e, hn⟩
      have hv := (wrap_inE (uacc bs a c))
      refine ⟨_, _, 0, ⟨hv.1, hv.2, by omega, by omega, fun _ => ⟨by omega, by have := h.2.2.1; omega, by omega, by have := h.2.2.1; omega, (fits_64u (wrap_inE (uacc bs a c)).2)⟩⟩, fun ao cap w hr => readU_num ao len cap a c bs w hr hbs hl h hb', fun ao cap w hr => ?_⟩
      rcases hr with hr | ⟨b, off, rfl, hc⟩
      · have := h.2.2.1; have := h.1; omega
      · exact rreadU_num b off len cap a c bs w hl hc hbs h hb'
/-- A number in groups. -/
theorem readSF (len : Nat) (bs : Nat → Int) (t : Int) (hbs : ∀ i, 0 ≤ bs i ∧ bs i < 256) (hl : len ≤ 140737488355328) (ht : t ≤ 9223372036854775807) :
    ∃ x i g : Int, Rd 9 len t x i g ∧ (∀ ao cap w, Row w ao len bs → Calls Tryd.prog 58 #[.slice ao len cap, .int .i64 t] w fun e w' => e = .returned (.tuple #[.int .i64 x, .int .i64 i, .int .i64 g]) ∧ Below w.heap.size w w') ∧
      (∀ ao cap w, Row w ao len bs → Calls Tryd.prog 34 #[.slice ao len cap, .int .i64 t] w fun e w' => e = .returned (.tuple #[.int .i64 x, .int .i64 i, .int .i64 g]) ∧ w' = w) := by
  rcases sorts len bs t with h | h | ⟨a, c, rfl, h⟩
  · exact ⟨0, 0, 20, ⟨by omega, by omega, by omega, by omega, fun e => absurd e (by omega)⟩, fun ao cap w hr => readS_fin ao len cap bs t w hr hl ht h, fun ao cap w hr => rreadS_fin ao len cap bs t w hr hl h⟩
  · exact ⟨0, 0, 21, ⟨by omega, by omega, by omega, by omega, fun e => absurd e (by omega)⟩, fun ao cap w hr => readS_lng ao len cap bs t w hr hl h, fun ao cap w hr => rreadS_lng ao len cap bs t w hr hl h⟩
  · by_cases hb : c = 10 ∧ ¬ (bs (a + 9) = 0 ∨ bs (a + 9) = 127)
    · obtain ⟨rfl, hb⟩ := hb
      exact ⟨0, 0, 21, ⟨by omega, by omega, by omega, by omega, fun e => absurd e (by omega)⟩, fun ao cap w hr => readS_bad ao len cap a bs w hr hbs hl h hb, fun ao cap w hr => rreadS_bad ao len cap a bs w hr hl h hb⟩
    · have hb' : c = 10 → bs (a + 9) = 0 ∨ bs (a + 9) = 127 := fun e => Classical.byContradiction fun hn => hb ⟨e, hn⟩
      have hv := (sval_in bs a c h.1)
      refine ⟨_, _, 0, ⟨hv.1, hv.2, by omega, by omega, fun _ => ⟨by omega, by have := h.2.2.1; omega, by omega, by have := h.2.2.1; omega, (fits_64s (sval_in bs a c h.1).1 (sval_in bs a c h.1).2)⟩⟩, fun ao cap w hr => readS_num ao len cap a c bs w hr hbs hl h hb', fun ao cap w hr => ?_⟩
      rcases hr with hr | ⟨b, off, rfl, hc⟩
      · have := h.2.2.1; have := h.1; omega
      · exact rreadS_num b off len cap a c bs w hl hc hbs h hb'

/-- An element reads as itself. -/
def RV (v : Value) : Option (DataW Value × List MemPlace) := some (.held v, [])
def kl (k : Int) : Lit := .int .i64 k
theorem law3 : Keyed Tryd.prog 3 := int_keyed Tryd.underlying3
theorem key3 {k : Int} (h0 : 0 ≤ k) (h1 : k ≤ 15) : keyOf Tryd.prog 3 (.int .i64 k) = some (kl k) := by
  have hk : k = 0 ∨ k = 1 ∨ k = 2 ∨ k = 3 ∨ k = 4 ∨ k = 5 ∨ k = 6 ∨ k = 7 ∨ k = 8 ∨ k = 9 ∨ k = 10 ∨ k = 11 ∨ k = 12 ∨ k = 13 ∨ k = 14 ∨ k = 15 := by omega
  refine keyOf_int_mk Tryd.underlying3 ?_
  rcases hk with rfl | rfl | rfl | rfl | rfl | rfl | rfl | rfl | rfl | rfl | rfl | rfl | rfl | rfl | rfl | rfl <;> decide
theorem held_inj {v u : Value} {d : DataW Value} {ps : List MemPlace} (h : RV v = some (d, ps)) (hu : d = .held u) : v = u := by
  subst hu
  have h1 := congrArg Prod.fst (Option.some.inj h)
  exact DataW.held.inj h1

/-- m[k] = v, where a literal of a map lays it. -/
theorem wpList_insert_own {H : Type} {P : Program} (w : World) {ops : Array Oper} {rest : List Oper} {o : Oper} {a : Act} {Q : Exit → Act → World → Prop}
    (hg : o.guard = none) (m x v : Operand) (t : TypeId) (hop : o.op = Op.insert t m x v)
    (k e : TypeId) (K : Keyed P k) (ht : P.underlying t = some (.map k e)) (R : Value → Option (DataW H × List MemPlace)) (b n : Nat) (D : DataW H)
    (hm : a.eval m = .map (some b)) (hown : w.ownsMap P k R b n D) (hn : n < maxLen) (key val : Value) (kl : Lit) (hx : a.eval x = key) (hv : a.eval v = val) (hkey : keyOf P k key = some kl)
    (d : DataW H) (ps : List MemPlace) (hval : R val = some (d, ps))
    (hK : ∀ w', w'.ownsMap P k R b (n + 1) (D.put kl d) → w.grownBy w' (some b) → w'.heap.size = w.heap.size → wpList P ops Q rest (a.put o.dst undef) w') :
    wpList P ops Q (o :: rest) a w := by
  refine wpList_plain hg fun K' hK' => ?_
  obtain ⟨w', hrun, r1, r2⟩ := hown.update K ht hn hkey hval
  have hsz : w'.heap.size = w.heap.size := by
    obtain ⟨es, clock, hb, F, hs, rfl⟩ := hown
    obtain ⟨es', clock', hrun', _⟩ := Maps.fit_store (R' := R) K ht hb F (Nat.lt_of_le_of_lt hs hn) (fun _ _ _ _ hz => hz) hkey hval
    rw [hrun] at hrun'
    injection hrun' with _ e
    rw [e]
    simp [ChangeMaps.setBlock]
  unfold Oper.wp
  simp [execOp, hop, hm, hx, hv, hrun, Result.andThen]
  exact hK' _ _ (hK w' r1 r2 hsz)

/-- An encoding that counts from 0. -/
def ev (z : Int) (s g : Bool) (d : Int) : Value := .agg #[.int .i64 z, .bool s, .bool g, .int .i64 d]
def eL : List (Int × Value) := [(0, ev 8 true false 0), (1, ev 8 false true 0), (2, ev 2 false false 0), (3, ev 4 false false 0), (4, ev 8 false false 0), (9, ev 8 true true 0), (10, ev 2 true false 0), (11, ev 4 true false 0), (12, ev 8 true false 0)]
def eK (j : Nat) : Int := (eL.getD j (0, undef)).1
def eV (j : Nat) : Value := (eL.getD j (0, undef)).2
def eD : Nat → DataW Value
  | 0 => .map []
  | j + 1 => (eD j).put (kl (eK j)) (.held (eV j))
theorem eK_in {j : Nat} (h : j < 9) : 0 ≤ eK j ∧ eK j ≤ 15 := by
  have : ∀ i : _root_.Fin 9, 0 ≤ eK i.val ∧ eK i.val ≤ 15 := by decide
  exact this ⟨j, h⟩

/-- The map as far as it is laid. -/
structure EM (w0 w : World) (j : Nat) : Prop where
  own : w.ownsMap Tryd.prog 3 RV w0.heap.size j (eD j)
  sz : w.heap.size = w0.heap.size + 1
  bel : Below w0.heap.size w0 w
theorem EM.start (w0 : World) : EM w0 (w0.alloc (.map #[] 0)) 0 := ⟨World.ownsMap_made _ _ _ _, by simp, (Below.refl _ _).alloc (Nat.le_refl _) _⟩
theorem und92 : Tryd.prog.underlying 92 = some (.map 3 60) := Tryd.underlying92
theorem eins_step {w0 w : World} {j : Nat} (hO : EM w0 w j) (hj : j < 9) {ops : Array Oper} {rest : List Oper} {o : Oper} {a : Act} {Q : Exit → Act → World → Prop}
    (hg : o.guard = none) (m x v : Operand) (hop : o.op = Op.insert 92 m x v) (hm : a.eval m = .map (some w0.heap.size)) (hx : a.eval x = .int .i64 (eK j)) (hv : a.eval v = eV j)
    (hK : ∀ w', EM w0 w' (j + 1) → wpList Tryd.prog ops Q rest (a.put o.dst undef) w') : wpList Tryd.prog ops Q (o :: rest) a w := by
  have hk := eK_in hj
  refine wpList_insert_own w hg m x v _ hop 3 60 law3 und92 RV w0.heap.size j (eD j) hm hO.own (by unfold maxLen; omega) _ _ (kl (eK j)) hx hv (key3 hk.1 hk.2) _ [] rfl ?_
  intro w' o1 g1 s1
  exact hK w' ⟨o1, by rw [s1]; exact hO.sz, hO.bel.grown g1 hO.bel.size (fun k hk => by cases hk; exact Nat.le_refl _)⟩
set_option maxHeartbeats 4000000 in
set_option maxRecDepth 10000 in
theorem encodings_any (w : World) : Calls Tryd.prog 50 #[] w fun e w' => e = .returned (.map (some w.heap.size)) ∧ EM w w' 9 := by
  have hmm : ∀ w : World, (Instr.makeMap 92 none).run Tryd.prog w = .ok (.map (some w.heap.size)) (w.alloc (.map #[] 0)) := by intro w; kernel_rfl
  have hO := EM.start w
  go_enter Tryd.func50, Tryd.ntmps50
  go_wp2_with (refine eins_step hO (by omega) rfl _ _ _ rfl (by kernel_rfl) (by kernel_rfl) (by kernel_rfl) ?_; clear hO; intro w' hO)
  go_ret
  exact ⟨rfl, hO⟩

/-- What the map holds at a form. -/
def eAt (f : Int) : Value := if fOk f then ev (fSize f : Int) (fSg f) (fGr f) 0 else ev 0 false false 0
theorem look_all {f : Int} (h0 : 0 ≤ f) (h1 : f ≤ 15) : has (eD 9) (kl f) = fOk f ∧ (eD 9).atKey (kl f) (.held (ev 0 false false 0)) = .held (eAt f) := by
  have hf : f = 0 ∨ f = 1 ∨ f = 2 ∨ f = 3 ∨ f = 4 ∨ f = 5 ∨ f = 6 ∨ f = 7 ∨ f = 8 ∨ f = 9 ∨ f = 10 ∨ f = 11 ∨ f = 12 ∨ f = 13 ∨ f = 14 ∨ f = 15 := by omega
  rcases hf with rfl | rfl | rfl | rfl | rfl | rfl | rfl | rfl | rfl | rfl | rfl | rfl | rfl | rfl | rfl | rfl <;> exact ⟨by kernel_rfl, by kernel_rfl⟩
theorem zero60 (w : World) : (zeroValue 60).run Tryd.prog w = .ok (ev 0 false false 0) w := by kernel_rfl
/-- A look-up whose answer is known. -/
theorem wpList_look_enc {ops : Array Oper} {rest : List Oper} {o : Oper} {a : Act} {w : World} {Q : Exit → Act → World → Prop} (hg : o.guard = none) (m x : Operand) (hop : o.op = Op.lookup 92 m x true)
    (b : Nat) (hm : a.eval m = .map (some b)) (hown : w.ownsMap Tryd.prog 3 RV b 9 (eD 9)) (f : Int) (hx : a.eval x = .int .i64 f) (h0 : 0 ≤ f) (h1 : f ≤ 15)
    (hK : wpList Tryd.prog ops Q rest (a.put o.dst (.tuple #[eAt f, .bool (fOk f)])) w) :
    wpList Tryd.prog ops Q (o :: rest) a w :=
  wpList_lookup_own_ok w hg m x 92 hop 3 60 law3 und92 RV (zero60 _) (.held (ev 0 false false 0)) [] rfl b 9 (eD 9) hm hown (.int .i64 f) (kl f) hx (key3 h0 h1) (fun v ps hv => by
    have : v = eAt f := held_inj hv (look_all h0 h1).2
    subst this
    rw [(look_all h0 h1).1]
    exact hK)
theorem plain_any (enc : Int) (w : World) : Calls Tryd.prog 51 #[.int .i64 enc] w fun e w' => e = .returned (.int .i64 (enc % 16)) ∧ w' = w := by
  go_enter Tryd.func51, Tryd.ntmps51
  go_wp2
  go_ret
  exact ⟨ret_int (and15 enc), rfl⟩
theorem isAddress_any (n : Int) (w : World) : Calls Tryd.prog 19 #[.int .i64 n] w fun e w' => e = .returned (.bool (!awayB n)) ∧ w' = w := by
  by_cases h0 : -1152921504606846976 ≤ n
  · by_cases h1 : n ≤ 1152921504606846976
    · have e : awayB n = false := by simp [awayB]; omega
      rw [e]
      go_enter Tryd.func19, Tryd.ntmps19
      go_wp2
      go_ret
      exact ⟨rfl, rfl⟩
    · have e : awayB n = true := by simp [awayB]; omega
      rw [e]
      go_enter Tryd.func19, Tryd.ntmps19
      go_wp2
      go_ret
      exact ⟨rfl, rfl⟩
  · have e : awayB n = true := by simp [awayB]; omega
    rw [e]
    go_enter Tryd.func19, Tryd.ntmps19
    go_wp2
    go_ret
    exact ⟨rfl, rfl⟩
end Go.Proofs.YtomboebfbipaaaaDoor
