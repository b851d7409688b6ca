/- The contract of the document's Read. -/
import Derived.Test.YtpdcbokcoaienaaDoorSRead2
namespace Go.Proofs.YtpdcbokcoaienaaDoor
open Go.ChangeShapes Go.WideShapes Go.ChangeAt Go.RowKit
set_option linter.unusedVariables false
set_option linter.unusedSimpArgs false

/-- What both Reads answer. -/
def fin (M : Option (List Sym)) (ok : Bool) : Option (List Sym) := match M with | none => none | some l => if ok = true then some l else none

theorem keepR {w v : World} {p : Addr} {x : Value} (h : v.cell? p = some x ∧ Hid (Below w.heap.size w v)) (o : Obj) : (v.alloc o).cell? p = some x ∧ Hid (Below w.heap.size w (v.alloc o)) :=
  ⟨((Below.refl v.heap.size v).alloc (Nat.le_refl _) o |>.cell (World.block_lt_of_cell? v p h.1)).trans h.1, ⟨h.2.out.alloc h.2.out.size o⟩⟩
theorem keepRd {w v : World} {p : Addr} {x : Value} (h : v.drew.cell? p = some x ∧ Hid (Below w.heap.size w v.drew)) (o : Obj) : ((v.alloc o).drew).cell? p = some x ∧ Hid (Below w.heap.size w ((v.alloc o).drew)) := keepR h o
theorem append_symX {ops : Array Oper} {rest : List Oper} {o : Oper} {a : Act} {Q : Exit → Act → World → Prop} (w : World) (hgd : o.guard = none) (s x : Operand)
    (ho : o.op = .call { callee := .builtin .append, args := #[s, x], argTypes := #[22, 22] })
    (base : Nat) (v : Value) (l : List Sym) (nm sc : ByteArray) (n4 n5 z1 z2 : Int) (hown : OwnY w.drew base v l) (hs : a.eval s = v) (q : Nat) (hx : a.eval x = .slice (some ⟨q, 0, none⟩) 1 1) (hq : q = w.heap.size)
    (hn : l.length + 1 ≤ 2199023255552) (hbase : base ≤ w.heap.size)
    (h : ∀ v' w', OwnY w' base v' (l ++ [⟨nm, sc, n4, n5, z1, z2⟩]) → Step w.drew w' v v' → wpList Tryd.prog ops Q rest (a.put o.dst v') w') :
    wpList Tryd.prog ops Q (o :: rest) a ((w.alloc (.cells #[.string nm, .string sc, .int .i64 n4, .int .i64 n5, .int .i64 z1, .int .i64 z2] 43)).drew) :=
  append_sym w.drew hgd s x ho base v l hs hown ⟨nm, sc, n4, n5, z1, z2⟩ q hx hq hn hbase h
theorem rd_no {l : List Sym} {ok : Bool} {w w' : World} {e : Ending} (hok : ok = false) (he : e = .returned (.tuple #[.slice none 0 0, .int .i64 80])) (hb : Below w.heap.size w w') : RdEnds (fin (some l) ok) w e w' := by
  subst hok; exact ⟨he, hb⟩
theorem rd_yes {l : List Sym} {ok : Bool} {w w' : World} {e : Ending} {ao : Option Addr} {c : Nat} (hok : ok = true) (he : e = .returned (.tuple #[.slice ao l.length c, .int .i64 0])) (hs : OwnY w' w.heap.size (.slice ao l.length c) l) (hb : Below w.heap.size w w') : RdEnds (fin (some l) ok) w e w' := by
  subst hok; exact ⟨ao, c, he, hs, hb⟩

theorem rread_long (I : In) (w : World) (first : Int) (h : 1048576 < I.n1 ∨ 1048576 < I.n2) :
    Calls Tryd.prog 14 #[.slice I.a1 I.n1 I.k1, .slice I.a2 I.n2 I.k2, .int .i64 first, .slice I.a3 I.ss.length I.k3] w fun e w' => e = .returned (.tuple #[.slice none 0 0, .int .i64 6]) ∧ Below w.heap.size w w' := by
  by_cases h1 : 1048576 < I.n1
  · clear h
    go_enter Tryd.func14, Tryd.ntmps14
    go_wp2
    go_ret2
    exact ⟨rfl, Below.refl _ _⟩
  · have h2 : 1048576 < I.n2 := by omega
    clear h
    go_enter Tryd.func14, Tryd.ntmps14
    go_wp2
    go_ret2
    exact ⟨rfl, Below.refl _ _⟩

theorem rread_odd (I : In) (w : World) (first : Int) (h1 : I.n1 ≤ 1048576) (h2 : I.n2 ≤ 1048576) (h : I.n1 < 24 ∨ ¬ I.n1 % 24 = 0) :
    Calls Tryd.prog 14 #[.slice I.a1 I.n1 I.k1, .slice I.a2 I.n2 I.k2, .int .i64 first, .slice I.a3 I.ss.length I.k3] w fun e w' => RdEnds none w e w' := by
  by_cases h3 : I.n1 < 24
  · clear h
    go_enter Tryd.func14, Tryd.ntmps14
    go_wp2
    go_ret2
    exact ⟨rfl, Below.refl _ _⟩
  · have h4 : ((I.n1 : Int) % 24 != 0) = true := by
      rw [bne_iff_ne]; omega
    clear h
    go_enter Tryd.func14, Tryd.ntmps14
    go_wp2
    go_ret2
    exact ⟨rfl, Below.refl _ _⟩

set_option maxHeartbeats 8000000 in
set_option maxRecDepth 20000 in
theorem rread_any (I : In) (w : World) (hi : InOk w I) (first : Int) (h24 : 24 ≤ I.n1) (hmod : I.n1 % 24 = 0) (Y B : List Int) (n x : Int)
    (W2 : ∀ l, prsM I = some l → ∀ a c a2 c2 w, Syms w a l → Strs w a2 I.ss → Calls Tryd.prog 7 #[.slice a l.length c, .slice a2 I.ss.length c2] w fun e w' => WE2 Y B n x w e w') (S1 S2 : ByteArray)
    (C1 : ∀ W, Below w.heap.size w W → Sem.run Tryd.prog (convert 24 9 (.slice I.a1 I.n1 I.k1)) W = .ok (.string S1) W) (C2 : ∀ W, Below w.heap.size w W → Sem.run Tryd.prog (convert 24 9 (.slice I.a2 I.n2 I.k2)) W = .ok (.string S2) W) :
    Calls Tryd.prog 14 #[.slice I.a1 I.n1 I.k1, .slice I.a2 I.n2 I.k2, .int .i64 first, .slice I.a3 I.ss.length I.k3] w fun e w' => RdEnds (fin (prsM I) (x == 0 && (n == first && ((strOfNums Y).toList == S1.toList && (strOfNums B).toList == S2.toList)))) w e w' := by
  have HI : Hid _ := ⟨hi⟩
  obtain ⟨b, off, ha1, hcell⟩ : ∃ b off, I.a1 = some ⟨b, off, none⟩ ∧ ∀ i, i < I.n1 → w.cell? ⟨b, off + i, none⟩ = some (.int .u8 (I.f1 i)) := by
    rcases hi.r1 with h | h
    · omega
    · exact h
  rw [ha1] at C1
  rw [ha1]
  have HC1 : Hid _ := ⟨C1⟩
  have HC2 : Hid _ := ⟨C2⟩
  have HW2 : Hid _ := ⟨W2⟩
  have HCE : Hid (∀ u, Below w.heap.size w u → ∀ i, i < I.n1 → u.cell? ⟨b, off + i, none⟩ = some (.int .u8 (I.f1 i))) := ⟨fun u hu i hi => by
    rw [hu.cell (p := ⟨b, off + i, none⟩) (World.block_lt_of_cell? w ⟨b, off + i, none⟩ (hcell i hi))]; exact hcell i hi⟩
  have HNU : Hid (∀ u, Below w.heap.size w u → ∀ a s : Nat, s ≤ 8 → a + s ≤ I.n1 → Calls Tryd.prog 36 #[.slice (some ⟨b, off, none⟩) I.n1 I.k1, .int .i64 a, .int .i64 s] u fun e w' => e = .returned (.int .i64 (wrap64 (bacc I.f1 a s))) ∧ w' = u) :=
    ⟨fun u hu a s h8 hin => rnumber_any b off I.n1 I.k1 a s I.f1 u (by have := hi.t1; omega) (HCE.out u hu) hi.b1 h8 hin⟩
  have t1 := hi.t1
  have t2 := hi.t2
  have HM0 : Hid (Far I (prsM I) [] 24) := ⟨I.n1 + 1, by omega, by unfold prsM; cases prs I (I.n1 + 1) 24 <;> simp⟩
  generalize prsM I = M at *
  have h4 : ((I.n1 : Int) % 24 != 0) = false := by
    rw [bne_eq_false_iff_eq]; omega
  have HMO : Hid _ := ⟨hmod⟩
  clear hi W2 C1 C2 hcell hmod ha1
  go_enter Tryd.func14, Tryd.ntmps14
  go_wp2
  go_loopw [11, 10] (fun i v wr => ∃ (a : Nat) (l : List Sym), i = .int .i64 a ∧ Hid (a = 24 + l.length * 24 ∧ a ≤ I.n1) ∧ a ≤ 1048576 ∧ Hid (OwnY wr w.heap.size v l ∧ Below w.heap.size w wr ∧ Far I M l a)) (fun i _ _ => 2097152 - (intOf i).toNat)
  case atStart => exact ⟨24, [], rfl, ⟨rfl, h24⟩, by omega, ⟨OwnY.nil _ _, Below.refl _ _, HM0.out⟩⟩
  case round =>
    obtain ⟨a, l, rfl, hal, hat, HW⟩ := hrel
    obtain ⟨O1, B1, F1⟩ := HW.out
    have hbs := B1.size
    have hll : l.length + 1 ≤ 2199023255552 := by have := hal.out; omega
    by_cases hlt : a < I.n1
    · have hlt' : (a : Int) < (I.n1 : Int) := by omega
      have hin : a + 24 ≤ I.n1 := by have := hal.out; have := HMO.out; omega
      have HN4 : Hid (Calls Tryd.prog 36 #[.slice (some ⟨b, off, none⟩) I.n1 I.k1, .int .i64 a, .int .i64 4] wr fun e w' => e = .returned (.int .i64 (fN I a 0)) ∧ w' = wr) := ⟨HNU.out wr B1 a 4 (by omega) (by omega)⟩
      have HN6 : Hid (Calls Tryd.prog 36 #[.slice (some ⟨b, off, none⟩) I.n1 I.k1, .int .i64 ((a : Int) + 6), .int .i64 2] wr fun e w' => e = .returned (.int .i64 (fN I a 3)) ∧ w' = wr) := ⟨HNU.out wr B1 (a + 6) 2 (by omega) (by omega)⟩
      have HN8 : Hid (∀ u, Below w.heap.size w u → Calls Tryd.prog 36 #[.slice (some ⟨b, off, none⟩) I.n1 I.k1, .int .i64 ((a : Int) + 8), .int .i64 8] u fun e w' => e = .returned (.int .i64 (fN I a 4)) ∧ w' = u) := ⟨fun u hu => HNU.out u hu (a + 8) 8 (by omega) (by omega)⟩
      have HN16 : Hid (∀ u, Below w.heap.size w u → Calls Tryd.prog 36 #[.slice (some ⟨b, off, none⟩) I.n1 I.k1, .int .i64 ((a : Int) + 16), .int .i64 8] u fun e w' => e = .returned (.int .i64 (fN I a 5)) ∧ w' = u) := ⟨fun u hu => HNU.out u hu (a + 16) 8 (by omega) (by omega)⟩
      have AO := atP_ok I.n2 I.f2 (fN I a 0) HI.out.b2 (by omega)
      have hF : symF I a = symM I a := by unfold symF; rw [if_pos hin]
      unfold symM at hF
      have hN3 : 0 ≤ fN I a 3 ∧ fN I a 3 < 65536 := by
        have := bacc_in I.f1 HI.out.b1 (a + fo 3) 2
        have e : fN I a 3 = wrap64 (bacc I.f1 (a + fo 3) 2) := rfl
        rw [e]; unfold wrap64; omega
      have hz := HCE.out wr B1 (a + 4) (by omega)
      have hzb := HI.out.b1 (a + 4)
      have hz1 : fN I a 1 = I.f1 (a + 4) := by
        have e : fN I a 1 = wrap64 (0 + I.f1 (a + 4 + 0) * 2 ^ (8 * 0)) := rfl
        rw [e]; simp; unfold wrap64; omega
      rw [hz1] at hF
      obtain ⟨p, hp⟩ : ∃ p, atP I.n2 I.f2 (fN I a 0) = p := ⟨_, rfl⟩
      rw [hp] at AO hF
      obtain ⟨nm, g⟩ := p
      have HNM : Hid _ := ⟨AO.2.2 I.a2 I.k2 wr (HI.out.r2.below B1 (Nat.le_refl _)) HI.out.fit2 HI.out.top2⟩
      generalize fN I a 0 = n0 at *
      generalize fN I a 3 = n3 at *
      generalize fN I a 4 = n4 at *
      generalize fN I a 5 = n5 at *
      generalize hzz : I.f1 (a + 4) = z at *
      clear hzz hz1 hp AO
      have i4 : (0 : Int) ≤ (a : Int) + 4 := by omega
      have hw4 : IntKind.i64.wrap ((a : Int) + 4) = (a : Int) + 4 := by rw [IntKind.wrap_i64]; omega
      have hw8 : IntKind.i64.wrap ((a : Int) + 8) = (a : Int) + 8 := by rw [IntKind.wrap_i64]; omega
      have hw16 : IntKind.i64.wrap ((a : Int) + 16) = (a : Int) + 16 := by rw [IntKind.wrap_i64]; omega
      have i6 : ((a : Int) + 4).toNat = a + 4 := by omega
      have hwz0 : IntKind.i64.wrap z = z := by rw [IntKind.wrap_i64]; omega
      have hwz1 : IntKind.i64.wrap (z.tdiv 16) = z.tdiv 16 := by rw [IntKind.wrap_i64, Int.tdiv_eq_ediv_of_nonneg (by omega)]; omega
      have i5 : (a : Int) + 4 < (I.n1 : Int) := by omega
      cases hg : g == 0
      · have hM : M = none := F1.none hlt (by rw [hF, if_neg (by simpa using hg)])
        subst hM
        have HB1 : Hid _ := ⟨B1⟩
        have hg' : (g != 0) = true := by simp [bne, hg]
        clear hF O1 F1 HW B1
        go_wp2_with (first
          | (go_at_call 36; (with_reducible refine HN4.out.mono ?_); rintro e w' ⟨rfl, hw'⟩; subst w')
          | (go_at_call 36; (with_reducible refine HN6.out.mono ?_); rintro e w' ⟨rfl, hw'⟩; subst w')
          | (go_at_call 35; (with_reducible refine HNM.out.mono ?_); rintro e w' ⟨rfl, hw'⟩; subst w'))
        go_ret2
        exact ⟨rfl, HB1.out⟩
      · obtain rfl : g = 0 := by simpa using hg
        have hN3' := hN3
        cases hs : secM I.ss n3 with
        | none =>
          have hM : M = none := F1.none hlt (by rw [hF]; simp only [if_true]; rw [hs]; rfl)
          subst hM
          have HB1 : Hid _ := ⟨B1⟩
          have hn3 : (I.ss.length : Int) < n3 ∧ (n3 != 65521) = true := by
            unfold secM at hs
            by_cases e0 : n3 = 0
            · rw [if_pos e0] at hs; cases hs
            · rw [if_neg e0] at hs
              by_cases e1 : n3 = 65521
              · rw [if_pos e1] at hs; cases hs
              · rw [if_neg e1] at hs
                by_cases e2 : n3 ≤ I.ss.length
                · rw [if_pos e2] at hs; cases hs
                · exact ⟨by omega, by simpa using e1⟩
          obtain ⟨hn3a, hn3b⟩ := hn3
          clear hF O1 F1 HW B1 hs
          go_wp2_with (first
            | (go_at_call 36; (with_reducible refine HN4.out.mono ?_); rintro e w' ⟨rfl, hw'⟩; subst w')
            | (go_at_call 36; (with_reducible refine HN6.out.mono ?_); rintro e w' ⟨rfl, hw'⟩; subst w')
            | (go_at_call 35; (with_reducible refine HNM.out.mono ?_); rintro e w' ⟨rfl, hw'⟩; subst w'))
          go_ret2
          exact ⟨rfl, HB1.out⟩
        | some sc =>
          have F2 := F1.next hlt (s := ⟨nm, sc, n4, n5, IntKind.i64.wrap (z.tdiv 16), z.tmod 16⟩) (by rw [hF]; simp only [if_true]; rw [hs]; rfl)
          have hwz : IntKind.i64.wrap (z.tdiv 16) = z.tdiv 16 := by
            rw [IntKind.wrap_i64, Int.tdiv_eq_ediv_of_nonneg (by omega)]; omega
          rw [hwz, Int.tmod_eq_emod_of_nonneg hzb.1] at F2
          have HF2 : Hid _ := ⟨F2⟩
          have HB1 : Hid _ := ⟨B1⟩
          have HO1 : Hid _ := ⟨O1⟩
          clear hF O1 F1 HW B1 F2 hwz
          unfold secM at hs
          by_cases e1 : n3 = 65521
          · have e1b : (n3 == 65521) = true := by simpa using e1
            have e1c : (n3 != 65521) = false := by simpa using e1
            have e1d : ¬ n3 = 0 := by omega
            rw [if_neg e1d, if_pos e1] at hs
            clear e1
            cases hs
            by_cases hl3 : (I.ss.length : Int) < n3
            all_goals
              go_upto_region 13 with (first
                | (go_at_call 36; (with_reducible refine HN4.out.mono ?_); rintro e w' ⟨rfl, hw'⟩; subst w')
                | (go_at_call 36; (with_reducible refine HN6.out.mono ?_); rintro e w' ⟨rfl, hw'⟩; subst w')
                | (go_at_call 35; (with_reducible refine HNM.out.mono ?_); rintro e w' ⟨rfl, hw'⟩; subst w'))
              have hz' : wr.drew.cell? ⟨b, off + (a + 4), none⟩ = some (.int .u8 z) := hz
              have hS0 : wr.drew.cell? ⟨b, off + (a + 4), none⟩ = some (.int .u8 z) ∧ Hid (Below w.heap.size w wr.drew) := ⟨hz, ⟨HB1.out.drew⟩⟩
              go_cut [15] from 37 to 105 (fun s15 wx => s15 = .pointer (some ⟨wr.heap.size, 0, none⟩) ∧ wx = (wr.alloc (.cells #[.string nm, .string ⟨#[]⟩, .int .i64 n4, .int .i64 n5, .int .i64 (z.tdiv 16), .int .i64 (z.tmod 16)] 43)).drew)
              case first =>
                go_region_held3 (fun v' => v'.cell? ⟨b, off + (a + 4), none⟩ = some (.int .u8 z) ∧ Hid (Below w.heap.size w v'))
                  (first | (with_reducible assumption) | exact keepR (by with_reducible assumption) _ | exact keepRd hS0 _)
                  (first
                    | (go_at_call 36; (with_reducible refine (HN8.out _ (And.right (by with_reducible assumption : _ ∧ Hid (Below w.heap.size w _))).out).mono ?_); rintro e w' ⟨rfl, hw'⟩; subst w')
                    | (go_at_call 36; (with_reducible refine (HN16.out _ (And.right (by with_reducible assumption : _ ∧ Hid (Below w.heap.size w _))).out).mono ?_); rintro e w' ⟨rfl, hw'⟩; subst w'))
                all_goals (go_wp2_with fail; go_meet; exact ⟨rfl, rfl⟩)
              case rest =>
                obtain ⟨h15, hwc⟩ := hcut
                rw [Int.tmod_eq_emod_of_nonneg hzb.1] at hwc
                subst h15
                subst hwc
                have hO2 : OwnY ((wr.alloc (.cells #[.string nm, .string ⟨#[42]⟩, .int .i64 n4, .int .i64 n5, .int .i64 (z.tdiv 16), .int .i64 (z % 16)] 43)).drew) w.heap.size u10 l := World.ownsRow.alloc HO1.out (.cells #[.string nm, .string ⟨#[42]⟩, .int .i64 n4, .int .i64 n5, .int .i64 (z.tdiv 16), .int .i64 (z % 16)] 43)
                have HB2 : Hid (Below w.heap.size w ((wr.alloc (.cells #[.string nm, .string ⟨#[42]⟩, .int .i64 n4, .int .i64 n5, .int .i64 (z.tdiv 16), .int .i64 (z % 16)] 43)).drew)) := ⟨(HB1.out.alloc hbs (.cells #[.string nm, .string ⟨#[42]⟩, .int .i64 n4, .int .i64 n5, .int .i64 (z.tdiv 16), .int .i64 (z % 16)] 43)).drew⟩
                have HO2 : Hid _ := ⟨hO2⟩
                clear hO2
                go_wp2_with (at_builtin; refine append_symX (wr.alloc (.cells #[.string nm, .string ⟨#[42]⟩, .int .i64 n4, .int .i64 n5, .int .i64 (z.tdiv 16), .int .i64 (z % 16)] 43)) rfl _ _ rfl w.heap.size u10 l nm ⟨#[42]⟩ n4 n5 (z.tdiv 16) (z % 16) HO2.out rfl (wr.heap.size + 1) rfl (by show wr.heap.size + 1 = (wr.heap.push _).size; simp) hll HB2.out.size ?_; intro v1 w1 hr1 hs1)
                go_roundw
                case rel =>
                  exact ⟨a + 24, l ++ [⟨nm, ⟨#[42]⟩, n4, n5, z.tdiv 16, z % 16⟩], by go_num, ⟨by have := hal.out; simp; omega, hin⟩, by omega, ⟨hr1, HB2.out.trans (hs1.below HO2.out HB2.out.size), HF2.out⟩⟩
                case measure => simp [intOf]; omega
          · have e1b : (n3 == 65521) = false := by simpa using e1
            have e1c : (n3 != 65521) = true := by simpa using e1
            by_cases e0 : n3 = 0
            · subst e0
              simp only [if_true] at hs
              clear e1 e1b e1c
              cases hs
              have hl3 : ¬ (I.ss.length : Int) < 0 := by omega
              go_upto_region 13 with (first
                | (go_at_call 36; (with_reducible refine HN4.out.mono ?_); rintro e w' ⟨rfl, hw'⟩; subst w')
                | (go_at_call 36; (with_reducible refine HN6.out.mono ?_); rintro e w' ⟨rfl, hw'⟩; subst w')
                | (go_at_call 35; (with_reducible refine HNM.out.mono ?_); rintro e w' ⟨rfl, hw'⟩; subst w'))
              have hz' : wr.drew.cell? ⟨b, off + (a + 4), none⟩ = some (.int .u8 z) := hz
              have hS0 : wr.drew.cell? ⟨b, off + (a + 4), none⟩ = some (.int .u8 z) ∧ Hid (Below w.heap.size w wr.drew) := ⟨hz, ⟨HB1.out.drew⟩⟩
              go_cut [15] from 37 to 105 (fun s15 wx => s15 = .pointer (some ⟨wr.heap.size, 0, none⟩) ∧ wx = (wr.alloc (.cells #[.string nm, .string ⟨#[]⟩, .int .i64 n4, .int .i64 n5, .int .i64 (z.tdiv 16), .int .i64 (z.tmod 16)] 43)).drew)
              case first =>
                go_region_held3 (fun v' => v'.cell? ⟨b, off + (a + 4), none⟩ = some (.int .u8 z) ∧ Hid (Below w.heap.size w v'))
                  (first | (with_reducible assumption) | exact keepR (by with_reducible assumption) _ | exact keepRd hS0 _)
                  (first
                    | (go_at_call 36; (with_reducible refine (HN8.out _ (And.right (by with_reducible assumption : _ ∧ Hid (Below w.heap.size w _))).out).mono ?_); rintro e w' ⟨rfl, hw'⟩; subst w')
                    | (go_at_call 36; (with_reducible refine (HN16.out _ (And.right (by with_reducible assumption : _ ∧ Hid (Below w.heap.size w _))).out).mono ?_); rintro e w' ⟨rfl, hw'⟩; subst w'))
                all_goals (go_wp2_with fail; go_meet; exact ⟨rfl, rfl⟩)
              case rest =>
                obtain ⟨h15, hwc⟩ := hcut
                rw [Int.tmod_eq_emod_of_nonneg hzb.1] at hwc
                subst h15
                subst hwc
                have hO2 : OwnY ((wr.alloc (.cells #[.string nm, .string ⟨#[]⟩, .int .i64 n4, .int .i64 n5, .int .i64 (z.tdiv 16), .int .i64 (z % 16)] 43)).drew) w.heap.size u10 l := World.ownsRow.alloc HO1.out (.cells #[.string nm, .string ⟨#[]⟩, .int .i64 n4, .int .i64 n5, .int .i64 (z.tdiv 16), .int .i64 (z % 16)] 43)
                have HB2 : Hid (Below w.heap.size w ((wr.alloc (.cells #[.string nm, .string ⟨#[]⟩, .int .i64 n4, .int .i64 n5, .int .i64 (z.tdiv 16), .int .i64 (z % 16)] 43)).drew)) := ⟨(HB1.out.alloc hbs (.cells #[.string nm, .string ⟨#[]⟩, .int .i64 n4, .int .i64 n5, .int .i64 (z.tdiv 16), .int .i64 (z % 16)] 43)).drew⟩
                have HO2 : Hid _ := ⟨hO2⟩
                clear hO2
                go_wp2_with (at_builtin; refine append_symX (wr.alloc (.cells #[.string nm, .string ⟨#[]⟩, .int .i64 n4, .int .i64 n5, .int .i64 (z.tdiv 16), .int .i64 (z % 16)] 43)) rfl _ _ rfl w.heap.size u10 l nm ⟨#[]⟩ n4 n5 (z.tdiv 16) (z % 16) HO2.out rfl (wr.heap.size + 1) rfl (by show wr.heap.size + 1 = (wr.heap.push _).size; simp) hll HB2.out.size ?_; intro v1 w1 hr1 hs1)
                go_roundw
                case rel =>
                  exact ⟨a + 24, l ++ [⟨nm, ⟨#[]⟩, n4, n5, z.tdiv 16, z % 16⟩], by go_num, ⟨by have := hal.out; simp; omega, hin⟩, by omega, ⟨hr1, HB2.out.trans (hs1.below HO2.out HB2.out.size), HF2.out⟩⟩
                case measure => simp [intOf]; omega
            · rw [if_neg e0, if_neg e1] at hs
              by_cases e2 : n3 ≤ I.ss.length
              · rw [if_pos e2] at hs
                have hl3 : ¬ (I.ss.length : Int) < n3 := by omega
                have hp3 : 0 < n3 := by omega
                have hw1 : IntKind.i64.wrap (n3 - 1) = n3 - 1 := by rw [IntKind.wrap_i64]; omega
                have hw2 : 0 ≤ n3 - 1 := by omega
                have hw3 : n3 - 1 < (I.ss.length : Int) := by omega
                obtain ⟨b3, off3, ha3, hss⟩ : ∃ b3 off3, I.a3 = some ⟨b3, off3, none⟩ ∧ wr.cell? ⟨b3, off3 + (n3.toNat - 1), none⟩ = some (.string sc) := by
                  rcases HI.out.r3.below HB1.out (Nat.le_refl _) with h | ⟨b3, off3, e, h⟩
                  · rw [h] at e2; simp at e2; omega
                  · refine ⟨b3, off3, e, ?_⟩
                    rw [h _ (by omega)]
                    simp only [Option.some.injEq] at hs
                    rw [hs]
                clear e1 e0 e2 hs
                rw [ha3]
                go_upto_region 13 with (first
                  | (go_at_call 36; (with_reducible refine HN4.out.mono ?_); rintro e w' ⟨rfl, hw'⟩; subst w')
                  | (go_at_call 36; (with_reducible refine HN6.out.mono ?_); rintro e w' ⟨rfl, hw'⟩; subst w')
                  | (go_at_call 35; (with_reducible refine HNM.out.mono ?_); rintro e w' ⟨rfl, hw'⟩; subst w'))
                have hz' : wr.drew.cell? ⟨b, off + (a + 4), none⟩ = some (.int .u8 z) := hz
                have hS0 : wr.drew.cell? ⟨b, off + (a + 4), none⟩ = some (.int .u8 z) ∧ Hid (Below w.heap.size w wr.drew) := ⟨hz, ⟨HB1.out.drew⟩⟩
                go_cut [15] from 37 to 105 (fun s15 wx => s15 = .pointer (some ⟨wr.heap.size, 0, none⟩) ∧ wx = (wr.alloc (.cells #[.string nm, .string ⟨#[]⟩, .int .i64 n4, .int .i64 n5, .int .i64 (z.tdiv 16), .int .i64 (z.tmod 16)] 43)).drew)
                case first =>
                  go_region_held3 (fun v' => v'.cell? ⟨b, off + (a + 4), none⟩ = some (.int .u8 z) ∧ Hid (Below w.heap.size w v'))
                    (first | (with_reducible assumption) | exact keepR (by with_reducible assumption) _ | exact keepRd hS0 _)
                    (first
                      | (go_at_call 36; (with_reducible refine (HN8.out _ (And.right (by with_reducible assumption : _ ∧ Hid (Below w.heap.size w _))).out).mono ?_); rintro e w' ⟨rfl, hw'⟩; subst w')
                      | (go_at_call 36; (with_reducible refine (HN16.out _ (And.right (by with_reducible assumption : _ ∧ Hid (Below w.heap.size w _))).out).mono ?_); rintro e w' ⟨rfl, hw'⟩; subst w'))
                  all_goals (go_wp2_with fail; go_meet; exact ⟨rfl, rfl⟩)
                case rest =>
                  obtain ⟨h15, hwc⟩ := hcut
                  rw [Int.tmod_eq_emod_of_nonneg hzb.1] at hwc
                  subst h15
                  subst hwc
                  have hlt3 : b3 < wr.heap.size := World.block_lt_of_cell? wr _ hss
                  have hne3 : ¬ b3 = wr.heap.size := by omega
                  have hc3 : (wr.alloc (.cells #[.string nm, .string ⟨#[]⟩, .int .i64 n4, .int .i64 n5, .int .i64 (z.tdiv 16), .int .i64 (z % 16)] 43)).drew.cell? ⟨b3, off3 + (n3.toNat - 1), none⟩ = some (.string sc) := by
                    have := ((Below.refl wr.heap.size wr).alloc (Nat.le_refl _) (.cells #[.string nm, .string ⟨#[]⟩, .int .i64 n4, .int .i64 n5, .int .i64 (z.tdiv 16), .int .i64 (z % 16)] 43) |>.cell (World.block_lt_of_cell? wr _ hss)).trans hss
                    exact this
                  have hO2 : OwnY ((wr.alloc (.cells #[.string nm, .string sc, .int .i64 n4, .int .i64 n5, .int .i64 (z.tdiv 16), .int .i64 (z % 16)] 43)).drew) w.heap.size u10 l := World.ownsRow.alloc HO1.out (.cells #[.string nm, .string sc, .int .i64 n4, .int .i64 n5, .int .i64 (z.tdiv 16), .int .i64 (z % 16)] 43)
                  have HB2 : Hid (Below w.heap.size w ((wr.alloc (.cells #[.string nm, .string sc, .int .i64 n4, .int .i64 n5, .int .i64 (z.tdiv 16), .int .i64 (z % 16)] 43)).drew)) := ⟨(HB1.out.alloc hbs (.cells #[.string nm, .string sc, .int .i64 n4, .int .i64 n5, .int .i64 (z.tdiv 16), .int .i64 (z % 16)] 43)).drew⟩
                  have HO2 : Hid _ := ⟨hO2⟩
                  clear hO2
                  go_wp2_with (at_builtin; refine append_symX (wr.alloc (.cells #[.string nm, .string sc, .int .i64 n4, .int .i64 n5, .int .i64 (z.tdiv 16), .int .i64 (z % 16)] 43)) rfl _ _ rfl w.heap.size u10 l nm sc n4 n5 (z.tdiv 16) (z % 16) HO2.out rfl (wr.heap.size + 1) rfl (by show wr.heap.size + 1 = (wr.heap.push _).size; simp) hll HB2.out.size ?_; intro v1 w1 hr1 hs1)
                  go_roundw
                  case rel =>
                    exact ⟨a + 24, l ++ [⟨nm, sc, n4, n5, z.tdiv 16, z % 16⟩], by go_num, ⟨by have := hal.out; simp; omega, hin⟩, by omega, ⟨hr1, HB2.out.trans (hs1.below HO2.out HB2.out.size), HF2.out⟩⟩
                  case measure => simp [intOf]; omega
              · rw [if_neg e2] at hs; cases hs
    · have hM : M = some l := F1.stop hlt
      subst hM
      have hlt' : ¬ (a : Int) < (I.n1 : Int) := by omega
      obtain ⟨ao, c1, hv1, _, _, hsyms, _⟩ := OwnY.any O1
      subst hv1
      have HO1 : Hid _ := ⟨O1⟩
      have HB1 : Hid _ := ⟨B1⟩
      have HWQ : Hid (∀ ao c u, OwnY u w.heap.size (.slice ao l.length c) l → Below w.heap.size w u → Calls Tryd.prog 7 #[.slice ao l.length c, .slice I.a3 I.ss.length I.k3] u fun e w' => WE2 Y B n x u e w') := ⟨fun ao c u ho hu => by
        obtain ⟨ao', c', hv, _, _, hsy, _⟩ := OwnY.any ho
        simp only [Value.slice.injEq] at hv
        obtain ⟨rfl, _, rfl⟩ := hv
        exact HW2.out l rfl ao c I.a3 I.k3 u hsy (HI.out.r3.below hu (Nat.le_refl _))⟩
      clear O1 B1 F1 HW HW2 HNU HCE
      cases q1 : x == 0
      · skip
        have hok : (x == 0 && (n == first && ((strOfNums Y).toList == S1.toList && (strOfNums B).toList == S2.toList))) = false := by rw [q1]; rfl
        have p1 : (x != 0) = true := by simp [bne, q1]
        go_wp2_with (first
          | (go_at_call 7; (with_reducible refine (HWQ.out _ _ _ HO1.out HB1.out).mono ?_); rintro e w3 ⟨vy, vs, rfl, oy, os, hb⟩; have k1 := oy.cv _ (Below.refl _ _); have k2 := os.cv _ (Below.refl _ _); have b3 := HB1.out.trans (hb.mono HB1.out.size); have k3 := HC1.out _ b3; have k4 := HC2.out _ b3; have HHB : Hid _ := ⟨hb⟩; have HB3 : Hid _ := ⟨b3⟩; clear oy os hb b3))
        go_ret2
        exact rd_no hok rfl HB3.out
      · cases q2 : n == first
        · skip
          have hok : (x == 0 && (n == first && ((strOfNums Y).toList == S1.toList && (strOfNums B).toList == S2.toList))) = false := by rw [q1, q2]; rfl
          have p1 : (x != 0) = false := by simp [bne, q1]
          have p2 : (n != first) = true := by simp [bne, q2]
          go_wp2_with (first
            | (go_at_call 7; (with_reducible refine (HWQ.out _ _ _ HO1.out HB1.out).mono ?_); rintro e w3 ⟨vy, vs, rfl, oy, os, hb⟩; have k1 := oy.cv _ (Below.refl _ _); have k2 := os.cv _ (Below.refl _ _); have b3 := HB1.out.trans (hb.mono HB1.out.size); have k3 := HC1.out _ b3; have k4 := HC2.out _ b3; have HHB : Hid _ := ⟨hb⟩; have HB3 : Hid _ := ⟨b3⟩; clear oy os hb b3))
          go_ret2
          exact rd_no hok rfl HB3.out
        · cases q3 : (strOfNums Y).toList == S1.toList
          · skip
            have hok : (x == 0 && (n == first && ((strOfNums Y).toList == S1.toList && (strOfNums B).toList == S2.toList))) = false := by rw [q1, q2, q3]; rfl
            have p1 : (x != 0) = false := by simp [bne, q1]
            have p2 : (n != first) = false := by simp [bne, q2]
            have p3 : ((strOfNums Y).toList != S1.toList) = true := by simp only [bne, q3]; rfl
            go_wp2_with (first
              | (go_at_call 7; (with_reducible refine (HWQ.out _ _ _ HO1.out HB1.out).mono ?_); rintro e w3 ⟨vy, vs, rfl, oy, os, hb⟩; have k1 := oy.cv _ (Below.refl _ _); have k2 := os.cv _ (Below.refl _ _); have b3 := HB1.out.trans (hb.mono HB1.out.size); have k3 := HC1.out _ b3; have k4 := HC2.out _ b3; have HHB : Hid _ := ⟨hb⟩; have HB3 : Hid _ := ⟨b3⟩; clear oy os hb b3))
            go_ret2
            exact rd_no hok rfl HB3.out
          · cases q4 : (strOfNums B).toList == S2.toList
            · skip
              have hok : (x == 0 && (n == first && ((strOfNums Y).toList == S1.toList && (strOfNums B).toList == S2.toList))) = false := by rw [q1, q2, q3, q4]; rfl
              have p1 : (x != 0) = false := by simp [bne, q1]
              have p2 : (n != first) = false := by simp [bne, q2]
              have p3 : ((strOfNums Y).toList != S1.toList) = false := by simp only [bne, q3]; rfl
              have p4 : ((strOfNums B).toList != S2.toList) = true := by simp only [bne, q4]; rfl
              go_wp2_with (first
                | (go_at_call 7; (with_reducible refine (HWQ.out _ _ _ HO1.out HB1.out).mono ?_); rintro e w3 ⟨vy, vs, rfl, oy, os, hb⟩; have k1 := oy.cv _ (Below.refl _ _); have k2 := os.cv _ (Below.refl _ _); have b3 := HB1.out.trans (hb.mono HB1.out.size); have k3 := HC1.out _ b3; have k4 := HC2.out _ b3; have HHB : Hid _ := ⟨hb⟩; have HB3 : Hid _ := ⟨b3⟩; clear oy os hb b3))
              go_ret2
              exact rd_no hok rfl HB3.out
            · skip
              have hok : (x == 0 && (n == first && ((strOfNums Y).toList == S1.toList && (strOfNums B).toList == S2.toList))) = true := by rw [q1, q2, q3, q4]; rfl
              have p1 : (x != 0) = false := by simp [bne, q1]
              have p2 : (n != first) = false := by simp [bne, q2]
              have p3 : ((strOfNums Y).toList != S1.toList) = false := by simp only [bne, q3]; rfl
              have p4 : ((strOfNums B).toList != S2.toList) = false := by simp only [bne, q4]; rfl
              go_wp2_with (first
                | (go_at_call 7; (with_reducible refine (HWQ.out _ _ _ HO1.out HB1.out).mono ?_); rintro e w3 ⟨vy, vs, rfl, oy, os, hb⟩; have k1 := oy.cv _ (Below.refl _ _); have k2 := os.cv _ (Below.refl _ _); have b3 := HB1.out.trans (hb.mono HB1.out.size); have k3 := HC1.out _ b3; have k4 := HC2.out _ b3; have HHB : Hid _ := ⟨hb⟩; have HB3 : Hid _ := ⟨b3⟩; clear oy os hb b3))
              go_ret2
              refine rd_yes hok rfl ?_ HB3.out
              exact (Turn.of_below HHB.out (fun _ => False)).row HO1.out (fun _ _ h => h)
end Go.Proofs.YtpdcbokcoaienaaDoor
