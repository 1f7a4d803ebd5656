/- The clauses that stand, in memory, while literals are set. -/
import Derived.Test.YtjjanmgeogjngaaGd
import Derived.Test.YtjjanmgeogjngaaGb
import Derived.Deep.RegionHeld3
/- The clauses that stand, in memory, while literals are set. -/
namespace Ckr
/-- Through hints: how it ended (0 open, 1 conflict, 2 wrong), and what is true then. -/
def thru (F : Int → Option (List Int)) : List Int → List Int → Int × List Int
  | T, [] => (0, T)
  | T, h :: hs => match F h with
    | none => (2, T)
    | some c => if meetHow (meetL T 0 c) = 0 then thru F (meetT T (meetL T 0 c)) hs else (meetHow (meetL T 0 c), meetT T (meetL T 0 c))
theorem meetT_len (T : List Int) (m : Option Int) : (meetT T m).length ≤ T.length + 1 := by
  unfold meetT
  split
  · omega
  · split <;> simp
end Ckr
namespace Go.Proofs.Ytjjanmgeogjngaa
open Go.RowKit Go.Maps
set_option linter.unusedVariables false

/-- A block that no setting turns. -/
def Still (n0 cb : Nat) (r : Option Nat) (W : World) (g : Nat) : Prop := g < W.heap.size ∧ g ≠ cb ∧ some g ≠ r ∧ (n0 ≤ g → ∀ cs fr, W.heap[g]? ≠ some (.cells cs 119 fr))
theorem Still.same {n0 cb g : Nat} {r : Option Nat} {W W' : World} (h : Still n0 cb r W g) (k : Kp n0 cb r W W') : W'.heap[g]? = W.heap[g]? := k.block g h.1 h.2.1 h.2.2.1 h.2.2.2
theorem Still.kp {n0 cb g : Nat} {r r' : Option Nat} {W W' : World} (h : Still n0 cb r W g) (k : Kp n0 cb r W W') (hn : Nw W r r') : Still n0 cb r' W' g := by
  refine ⟨Nat.lt_of_lt_of_le h.1 k.size, h.2.1, ?_, fun hg cs fr => by rw [h.same k]; exact h.2.2.2 hg cs fr⟩
  rcases hn with rfl | ⟨q, rfl, hq⟩
  · exact h.2.2.1
  · intro e; injection e with e; have := h.1; omega
theorem Still.cell {n0 cb : Nat} {r : Option Nat} {W W' : World} {a : Addr} (h : Still n0 cb r W a.block) (k : Kp n0 cb r W W') : W'.cell? a = W.cell? a := World.cell?_of_block (h.same k)

/-- A row that no setting turns. -/
def SafeR (q : IntKind) (lo hi : Int) (n0 cb : Nat) (r : Option Nat) (W : World) (a : Option Addr) (xs : List Int) : Prop :=
  Row q lo hi W a xs ∧ ∀ g off, a = some ⟨g, off, none⟩ → xs ≠ [] → Still n0 cb r W g
theorem SafeR.kp {q : IntKind} {lo hi : Int} {n0 cb : Nat} {r r' : Option Nat} {W W' : World} {a : Option Addr} {xs : List Int} (h : SafeR q lo hi n0 cb r W a xs) (k : Kp n0 cb r W W') (hn : Nw W r r') : SafeR q lo hi n0 cb r' W' a xs := by
  obtain ⟨⟨h1, h2⟩, h3⟩ := h
  refine ⟨⟨h1, ?_⟩, fun g off e hx => (h3 g off e hx).kp k hn⟩
  rcases h2 with h2 | ⟨b, off, e, hl, hc⟩
  · exact .inl h2
  · refine .inr ⟨b, off, e, Nat.lt_of_lt_of_le hl k.size, fun j hj => ?_⟩
    exact ((h3 b off e (by intro e; rw [e] at hj; simp at hj)).cell (a := ⟨b, off + j, none⟩) k).trans (hc j hj)
theorem SafeR.safe {n0 cb : Nat} {r : Option Nat} {W : World} {a : Option Addr} {xs : List Int} (h : SafeR .i32 (-2147483648) 2147483647 n0 cb r W a xs) : Safe n0 cb r W a xs :=
  ⟨h.1, fun g off e hx => (h.2 g off e hx).2⟩

theorem Mp.same {W W' : World} {bm n : Nat} {f : Int → Option Value} (h : Mp W bm n f) (e : W'.heap[bm]? = W.heap[bm]?) : Mp W' bm n f := by
  obtain ⟨D, ⟨es, cl, h1, h2⟩, h3⟩ := h
  exact ⟨D, ⟨es, cl, e.trans h1, h2⟩, h3⟩

/-- The clauses that stand. -/
structure Stand (n0 cb bm k : Nat) (f : Int → Option Value) (F : Int → Option (List Int)) (r : Option Nat) (W : World) : Prop where
  map : Mp W bm k f
  still : Still n0 cb r W bm
  none_ : ∀ id, f id = none → F id = none
  some_ : ∀ id v, f id = some v → ∃ a c xs, v = .slice a xs.length c ∧ F id = some xs ∧ SafeR .i32 (-2147483648) 2147483647 n0 cb r W a xs ∧ xs.length ≤ 16777216 ∧ ∀ x ∈ xs, x ≠ 0 ∧ -1048576 ≤ x ∧ x ≤ 1048576
theorem Stand.kp {n0 cb bm k : Nat} {f : Int → Option Value} {F : Int → Option (List Int)} {r r' : Option Nat} {W W' : World} (h : Stand n0 cb bm k f F r W) (hk : Kp n0 cb r W W') (hn : Nw W r r') : Stand n0 cb bm k f F r' W' := by
  refine ⟨h.map.same (h.still.same hk), h.still.kp hk hn, h.none_, fun id v hv => ?_⟩
  obtain ⟨a, c, xs, h1, h2, h3, h4⟩ := h.some_ id v hv
  exact ⟨a, c, xs, h1, h2, h3.kp hk hn, h4⟩

def ThruOut (n0 cb : Nat) (c0 c1 c2 c3 c4 : Value) (W : World) (r : Option Nat) (d : Int × List Int) (e : Ending) (W' : World) : Prop :=
  e = .returned (.int .i64 d.1) ∧ ∃ r', Asg n0 cb c0 c1 c2 c3 c4 W' d.2 r' ∧ Kp n0 cb r W W' ∧ Nw W r r'
end Go.Proofs.Ytjjanmgeogjngaa

/- Through hints: the call. -/
namespace Ckr
theorem thru_none {F : Int → Option (List Int)} {T : List Int} {h : Int} {hs : List Int} (e : F h = none) : thru F T (h :: hs) = (2, T) := by rw [thru, e]
theorem thru_go {F : Int → Option (List Int)} {T c : List Int} {h : Int} {hs : List Int} (e : F h = some c) (e2 : meetHow (meetL T 0 c) = 0) : thru F T (h :: hs) = thru F (meetT T (meetL T 0 c)) hs := by rw [thru, e]; simp only [if_pos e2]
theorem thru_stop {F : Int → Option (List Int)} {T c : List Int} {h : Int} {hs : List Int} (e : F h = some c) (e2 : ¬ meetHow (meetL T 0 c) = 0) : thru F T (h :: hs) = (meetHow (meetL T 0 c), meetT T (meetL T 0 c)) := by rw [thru, e]; simp only [if_neg e2]
end Ckr
namespace Go.Proofs.Ytjjanmgeogjngaa
open Go.RowKit Go.Maps
set_option linter.unusedVariables false

set_option maxRecDepth 100000 in
set_option maxHeartbeats 4000000 in
theorem through76 (n0 cb bm km bx : Nat) (f : Int → Option Value) (F : Int → Option (List Int)) (c1 c2 c3 c4 : Value) (a : Option Addr) (n c : Nat) (hs : List Int) (W : World) (T : List Int) (r : Option Nat) (hA : Asg n0 cb (.map (some bm)) c1 c2 c3 c4 W T r) (hS : Stand n0 cb bm km f F r W) (hn : hs.length = n) (hb : n ≤ 2147483648)
    (hx : SafeR .i64 (-9223372036854775808) 9223372036854775807 n0 cb r W a hs) (hbx : Still n0 cb r W bx) (hcx : W.cell? ⟨bx, 0, none⟩ = some (.pointer (some ⟨cb, 0, none⟩))) (hTn : T.length ≤ 2147483647) :
    Calls Try.prog 76 #[.slice a n c, .pointer (some ⟨bx, 0, none⟩)] W fun e W' => ThruOut n0 cb (.map (some bm)) c1 c2 c3 c4 W r (Ckr.thru F T hs) e W' := by
  have HX := hid hx
  have HN := hid hn
  have HT := hid hTn
  have HS := hid hS
  have HA := hid hA
  have HBX := hid hbx
  have HCX := hid hcx
  obtain ⟨d, hd⟩ : ∃ d, Ckr.thru F T hs = d := ⟨_, rfl⟩
  have HD0 := hid hd
  rw [hd]
  clear hA hx hn hTn hd hS hbx hcx
  go_enter Try.func76, Try.ntmps76
  go_wp2
  go_loopw [11] (fun i wr => ∃ (k : Nat) (T1 : List Int) (r1 : Option Nat), i = .int .i64 k ∧ k ≤ n ∧ Hid (Ckr.thru F T1 (hs.drop k) = d) ∧ Hid (Asg n0 cb (.map (some bm)) c1 c2 c3 c4 wr T1 r1) ∧ Hid (Kp n0 cb r W wr ∧ Nw W r r1) ∧ Hid (T1.length ≤ T.length + k)) (fun i _ => n - (intOf i).toNat)
  case atStart => exact ⟨0, T, r, rfl, Nat.zero_le _, hid (by rw [List.drop_zero]; exact HD0.out), HA, hid ⟨Kp.refl _ _ _ _, Nw.refl _ _⟩, hid (by omega)⟩
  case round =>
    clear HA HD0
    obtain ⟨k, T1, r1, rfl, hk, HD, HA, HK, HT1⟩ := hrel
    by_cases hlt : k < n
    · have hlt' : (k : Int) < n := by omega
      obtain ⟨b, off, rfl, _, hc, h1, h2⟩ := Row.at (HX.out.kp HK.out.1 HK.out.2).1 (j := k) (by rw [HN.out]; exact hlt)
      have HC := hid (Cnf.drop_cons hs k (by rw [HN.out]; exact hlt))
      have hbx : wr.cell? ⟨bx, 0, none⟩ = some (.pointer (some ⟨cb, 0, none⟩)) := (HBX.out.cell (a := ⟨bx, 0, none⟩) HK.out.1).trans HCX.out
      have h0 : wr.cell? ⟨cb, 0, none⟩ = some (.map (some bm)) := by
        obtain ⟨vals, vv, vr, _, _, _, hc, _⟩ := HA.out
        exact row_cell hc 0
      have HSt := hid (HS.out.kp HK.out.1 HK.out.2)
      generalize hs.getD k 0 = x at hc HC h1 h2
      have hlook := HSt.out.map.look (id := x) ⟨h1, h2⟩
      have hD := HD.out
      rw [HC.out] at hD
      cases hf : f x with
      | none =>
        rw [hf] at hlook
        have HE := hid (show (2, T1) = d by rw [← hD, Ckr.thru_none (HSt.out.none_ x hf)])
        simp only [Option.getD_none, Option.isSome_none] at hlook
        clear hD hf HD
        go_wp2
        go_ret
        rw [← HE.out]
        exact ⟨rfl, r1, HA.out, HK.out.1, HK.out.2⟩
      | some v =>
        obtain ⟨ac, cc, xs, rfl, hF, hSafe, hxl, hxs⟩ := HSt.out.some_ x _ hf
        rw [hf] at hlook
        simp only [Option.getD_some, Option.isSome_some] at hlook
        have C := hid (meet77 n0 cb (.map (some bm)) c1 c2 c3 c4 ac xs.length cc xs wr T1 r1 HA.out rfl (by omega) hSafe.1 (by have := HT1.out; have := HT.out; omega))
        have HLen := hid (Ckr.meetT_len T1 (Ckr.meetL T1 0 xs))
        have HG := hid (fun e => show Ckr.thru F (Ckr.meetT T1 (Ckr.meetL T1 0 xs)) (hs.drop (k + 1)) = d by rw [← hD, Ckr.thru_go hF e])
        have HP := hid (fun e => show (Ckr.meetHow (Ckr.meetL T1 0 xs), Ckr.meetT T1 (Ckr.meetL T1 0 xs)) = d by rw [← hD, Ckr.thru_stop hF e])
        generalize Ckr.meetL T1 0 xs = M at C HLen HG HP
        generalize xs.length = nx at C hlook
        unfold MeetOut at C
        generalize Ckr.meetT T1 M = T2 at C HLen HG HP
        generalize Ckr.meetHow M = q at C HG HP
        clear hD hf HD hF hSafe hxs hxl
        by_cases hq : q = 0
        · have HU := hid (HG.out hq)
          subst hq
          clear HG HP
          go_wp2_with (go_at_call 77; refine C.out.mono ?_; clear C; rintro e w2 ⟨rfl, r2, hA2, hK2, hN2⟩; have HA2 := hid hA2; have HK2 := hid (And.intro (HK.out.1.trans hK2 HK.out.2) (HK.out.2.trans hN2 HK.out.1.size)); clear hA2 hK2 hN2)
          go_roundw
          case rel => exact ⟨k + 1, T2, r2, by go_num, by omega, HU, HA2, HK2, hid (by have := HT1.out; have := HLen.out; omega)⟩
          case measure => simp [intOf]; omega
        · have HU := hid (HP.out hq)
          have hq' : (q == 0) = false := by simpa using hq
          clear HG HP hq
          go_wp2_with (go_at_call 77; refine C.out.mono ?_; clear C; rintro e w2 ⟨rfl, r2, hA2, hK2, hN2⟩; have HA2 := hid hA2; have HK2 := hid (And.intro (HK.out.1.trans hK2 HK.out.2) (HK.out.2.trans hN2 HK.out.1.size)); clear hA2 hK2 hN2)
          go_ret
          rw [← HU.out]
          exact ⟨rfl, r2, HA2.out, HK2.out.1, HK2.out.2⟩
    · have hge : ¬ (k : Int) < n := by omega
      have HE := hid (show (0, T1) = d by have := HD.out; rw [List.drop_of_length_le (by rw [HN.out]; omega)] at this; exact this)
      go_wp2
      go_ret
      rw [← HE.out]
      exact ⟨rfl, r1, HA.out, HK.out.1, HK.out.2⟩
end Go.Proofs.Ytjjanmgeogjngaa

/- A group of hints: the call. -/
namespace Ckr
theorem deny_ext (but : Int) (xs : List Int) : ∀ T, ∃ S, (denyL but T xs).2 = T ++ S := by
  induction xs with
  | nil => intro T; exact ⟨[], by simp [denyL]⟩
  | cons l ls ih =>
    intro T
    rw [denyL]
    split
    · exact ih T
    · split
      · exact ⟨[], by simp⟩
      · split
        · obtain ⟨S, h⟩ := ih (T ++ [-l])
          exact ⟨[-l] ++ S, by rw [h, List.append_assoc]⟩
        · exact ih T
theorem deny_len (but : Int) (xs : List Int) : ∀ T, (denyL but T xs).2.length ≤ T.length + xs.length := by
  induction xs with
  | nil => intro T; simp [denyL]
  | cons l ls ih =>
    intro T
    rw [denyL]
    split
    · have := ih T; simp; omega
    · split
      · simp
      · split
        · have := ih (T ++ [-l]); simp at this ⊢; omega
        · have := ih T; simp; omega
theorem meetT_ext (T : List Int) (m : Option Int) : ∃ S, meetT T m = T ++ S := by
  unfold meetT
  split
  · exact ⟨[], by simp⟩
  · split
    · exact ⟨[], by simp⟩
    · exact ⟨_, rfl⟩
theorem thru_ext (F : Int → Option (List Int)) (hs : List Int) : ∀ T, ∃ S, (thru F T hs).2 = T ++ S := by
  induction hs with
  | nil => intro T; exact ⟨[], by simp [thru]⟩
  | cons h hs ih =>
    intro T
    cases e : F h with
    | none => rw [thru_none e]; exact ⟨[], by simp⟩
    | some c =>
      by_cases e2 : meetHow (meetL T 0 c) = 0
      · rw [thru_go e e2]
        obtain ⟨S1, h1⟩ := meetT_ext T (meetL T 0 c)
        obtain ⟨S2, h2⟩ := ih (meetT T (meetL T 0 c))
        exact ⟨S1 ++ S2, by rw [h2, h1, List.append_assoc]⟩
      · rw [thru_stop e e2]; exact meetT_ext T _
/-- The error of hints that ended so. -/
def toldE (h : Int) : Int := if h = 1 then 0 else if h = 2 then 60 else 61
/-- The error of the group of a clause. -/
def groupE (F : Int → Option (List Int)) (T c : List Int) (p : Int) (hs : List Int) : Int := if (denyL (-p) T c).1 then 0 else toldE (thru F (denyL (-p) T c).2 hs).1
end Ckr
namespace Go.Proofs.Ytjjanmgeogjngaa
open Go.RowKit Go.Maps
set_option linter.unusedVariables false

theorem Safe.of {n0 cb : Nat} {r : Option Nat} {W : World} {a : Option Addr} {xs : List Int} (h : SafeR .i32 (-2147483648) 2147483647 n0 cb r W a xs) : Safe n0 cb r W a xs := h.safe
def GroupOut (n0 cb : Nat) (c0 c1 c2 c3 c4 : Value) (W : World) (T : List Int) (r : Option Nat) (q : Int) (e : Ending) (W' : World) : Prop :=
  e = .returned (.int .i64 q) ∧ ∃ r', Asg n0 cb c0 c1 c2 c3 c4 W' T r' ∧ Kp n0 cb r W W' ∧ Nw W r r'

set_option maxRecDepth 100000 in
set_option maxHeartbeats 4000000 in
theorem group89 (n0 cb bm km bx : Nat) (f : Int → Option Value) (F : Int → Option (List Int)) (c1 c2 c3 c4 : Value) (ac : Option Addr) (nc cc : Nat) (xs : List Int) (p : Int) (a : Option Addr) (n c : Nat) (hs : List Int) (W : World) (T : List Int) (r : Option Nat) (hA : Asg n0 cb (.map (some bm)) c1 c2 c3 c4 W T r) (hS : Stand n0 cb bm km f F r W)
    (hnc : xs.length = nc) (hbc : nc ≤ 16777216) (hxc : SafeR .i32 (-2147483648) 2147483647 n0 cb r W ac xs) (hxl : ∀ x ∈ xs, x ≠ 0 ∧ -1048576 ≤ x ∧ x ≤ 1048576) (hp : -1048576 ≤ p ∧ p ≤ 1048576)
    (hn : hs.length = n) (hb : n ≤ 1048576) (hx : SafeR .i64 (-9223372036854775808) 9223372036854775807 n0 cb r W a hs) (hbx : Still n0 cb r W bx) (hcx : W.cell? ⟨bx, 0, none⟩ = some (.pointer (some ⟨cb, 0, none⟩))) (hTn : T.length ≤ 1073741824) :
    Calls Try.prog 89 #[.pointer (some ⟨cb, 0, none⟩), .slice ac nc cc, .int .i32 p, .slice a n c, .func (.func 76) #[] #[.pointer (some ⟨bx, 0, none⟩)]] W fun e W' => GroupOut n0 cb (.map (some bm)) c1 c2 c3 c4 W T r (Ckr.groupE F T xs p hs) e W' := by
  have C75 := hid (deny75 n0 cb (.map (some bm)) c1 c2 c3 c4 ac nc cc (-p) xs W T r hA hnc (by omega) hxc.safe hxl (by omega) (by omega))
  have C76 := hid (fun W1 r1 (hk : Kp n0 cb r W W1) (hw : Nw W r r1) (hA1 : Asg n0 cb (.map (some bm)) c1 c2 c3 c4 W1 (Ckr.denyL (-p) T xs).2 r1) => through76 n0 cb bm km bx f F c1 c2 c3 c4 a n c hs W1 _ r1 hA1 (hS.kp hk hw) hn (by omega) (hx.kp hk hw) (hbx.kp hk hw) ((hbx.cell (a := ⟨bx, 0, none⟩) hk).trans hcx) (by have := Ckr.deny_len (-p) xs T; omega))
  have C80 := hid (fun h w => show Calls Try.prog 80 #[.int .i64 h] w fun e w' => e = .returned (.int .i64 (Ckr.toldE h)) ∧ w' = w from told80 h w)
  have HE1 := hid (Ckr.deny_ext (-p) xs T)
  have HE2 := hid (Ckr.thru_ext F hs (Ckr.denyL (-p) T xs).2)
  have HG : Hid (Ckr.groupE F T xs p hs = if (Ckr.denyL (-p) T xs).1 then 0 else Ckr.toldE (Ckr.thru F (Ckr.denyL (-p) T xs).2 hs).1) := rfl
  have x6 : ∃ at6 ct6, W.cell? ⟨cb, 6, none⟩ = some (.slice at6 T.length ct6) := by
    obtain ⟨vals, vv, vr, _, _, _, hc, _, hot, _⟩ := hA
    obtain ⟨a6, c6, rfl⟩ := own_slc hot
    exact ⟨a6, c6, row_cell hc 6⟩
  obtain ⟨at6, ct6, x6⟩ := x6
  have pw : IntKind.i32.wrap (-p) = -p := by rw [IntKind.wrap_i32]; omega
  generalize Ckr.groupE F T xs p hs = E at HG ⊢
  unfold DenyOut at C75
  generalize Ckr.denyL (-p) T xs = dn at C75 C76 HE1 HE2 HG
  obtain ⟨dB, dT⟩ := dn
  simp only at C75 C76 HE1 HE2 HG
  clear hA hS hnc hxc hxl hn hx hbx hcx
  cases dB
  · go_enter_defers Try.func89, Try.ntmps89
    go_wp2_with (first
      | (go_at_call 75; refine C75.out.mono ?_; clear C75; rintro e W1 ⟨rfl, r1, hA1, hK1, hN1⟩; have CT := hid (C76.out W1 r1 hK1 hN1 hA1); have HK1 := hid (And.intro hK1 hN1); clear hA1 hK1 hN1)
      | (go_at_call 76; refine CT.out.mono ?_; clear CT; rintro e W2 ⟨rfl, r2, hA2, hK2, hN2⟩; have HA2 := hid hA2; have HK2 := hid (And.intro (HK1.out.1.trans hK2 HK1.out.2) (HK1.out.2.trans hN2 HK1.out.1.size)); clear hA2 hK2 hN2)
      | (go_at_call 80; refine (C80.out _ _).mono ?_; rintro e w' ⟨rfl, rfl⟩))
    obtain ⟨S1, e1⟩ := HE1.out
    obtain ⟨S2, e2⟩ := HE2.out
    refine leaves_cons (f := 74) (args := #[.pointer (some ⟨cb, 0, none⟩), .int .i64 T.length]) (by simp) (by simp [go_sem]) ?_
    refine (takeBackD n0 cb (.map (some bm)) c1 c2 c3 c4 .returning _ T (S1 ++ S2) r2 (by have h := HA2.out; rw [e2, e1, List.append_assoc] at h; exact h)).mono ?_
    rintro e u' w'' ⟨rfl, rfl, hA3, hK3⟩
    exact ⟨_, results_tmp rfl _ _ _, by rw [HG.out]; rfl, r2, hA3, HK2.out.1.trans hK3 HK2.out.2, HK2.out.2⟩
  · go_enter_defers Try.func89, Try.ntmps89
    go_wp2_with (first
      | (go_at_call 75; refine C75.out.mono ?_; clear C75; rintro e W1 ⟨rfl, r1, hA1, hK1, hN1⟩; have HA2 := hid hA1; have HK2 := hid (And.intro hK1 hN1); clear hA1 hK1 hN1))
    obtain ⟨S1, e1⟩ := HE1.out
    refine leaves_cons (f := 74) (args := #[.pointer (some ⟨cb, 0, none⟩), .int .i64 T.length]) (by simp) (by simp [go_sem]) ?_
    refine (takeBackD n0 cb (.map (some bm)) c1 c2 c3 c4 .returning _ T S1 r1 (by have h := HA2.out; rw [e1] at h; exact h)).mono ?_
    rintro e u' w'' ⟨rfl, rfl, hA3, hK3⟩
    exact ⟨_, results_tmp rfl _ _ _, by rw [HG.out]; rfl, r1, hA3, HK2.out.1.trans hK3 HK2.out.2, HK2.out.2⟩
end Go.Proofs.Ytjjanmgeogjngaa

/- Hints are cut ahead of the first one below 0; how often a clause has a literal. -/
namespace Ckr
def times (l : Int) (xs : List Int) : Nat := (xs.filter (fun x => x == l)).length
theorem times_take (l : Int) (xs : List Int) (k : Nat) (h : k < xs.length) : times l (xs.take (k + 1)) = times l (xs.take k) + (if xs.getD k 0 == l then 1 else 0) := by
  unfold times
  rw [Lra.take_snoc xs k h, List.filter_append, List.length_append]
  congr 1
  generalize xs.getD k 0 = y
  cases e : (y == l) <;> simp [List.filter, e]
theorem times_le (l : Int) (xs : List Int) : times l xs ≤ xs.length := List.length_filter_le _ _
end Ckr
namespace Go.Proofs.Ytjjanmgeogjngaa
open Go.RowKit
set_option linter.unusedVariables false

set_option maxHeartbeats 2000000 in
theorem timesIn88 (a : Option Addr) (n c : Nat) (xs : List Int) (l : Int) (w : World) (hn : xs.length = n) (hb : n ≤ 35184372088832) (hx : Lits w a xs) :
    Calls Try.prog 88 #[.slice a n c, .int .i32 l] w fun e w' => e = .returned (.int .i64 (Ckr.times l xs)) ∧ w' = w := by
  have HX := hid hx
  have HN := hid hn
  obtain ⟨r, hr⟩ : ∃ r, Ckr.times l xs = r := ⟨_, rfl⟩
  have HR := hid hr
  rw [hr]
  clear hx hn hr
  go_enter Try.func88, Try.ntmps88
  go_wp2
  go_loop [5, 10] (fun t i => ∃ k q : Nat, i = .int .i64 k ∧ t = .int .i64 q ∧ k ≤ n ∧ q ≤ k ∧ Hid (Ckr.times l (xs.take k) = q)) (fun _ i => n - (intOf i).toNat)
  case atStart => exact ⟨0, 0, rfl, rfl, Nat.zero_le _, Nat.le_refl _, hid rfl⟩
  case round =>
    obtain ⟨k, q, rfl, rfl, hk, hq, HI⟩ := hrel
    by_cases hlt : k < n
    · have hlt' : (k : Int) < n := by omega
      obtain ⟨b, off, rfl, _, hc, h1, h2⟩ := Row.at HX.out (j := k) (by rw [HN.out]; exact hlt)
      have HT := hid (Ckr.times_take l xs k (by rw [HN.out]; exact hlt))
      generalize xs.getD k 0 = x at hc h1 h2 HT
      cases e : (x == l)
      · have HK := hid (show Ckr.times l (xs.take (k + 1)) = q by rw [HT.out, HI.out, e]; rfl)
        clear HT
        go_wp2
        go_round
        case rel => exact ⟨k + 1, q, by go_num, rfl, by omega, by omega, HK⟩
        case measure => simp [intOf]; omega
      · have HK := hid (show Ckr.times l (xs.take (k + 1)) = q + 1 by rw [HT.out, HI.out, e]; rfl)
        clear HT
        go_wp2
        go_round
        case rel => exact ⟨k + 1, q + 1, by go_num, by go_num, by omega, by omega, HK⟩
        case measure => simp [intOf]; omega
    · have hge : ¬ (k : Int) < n := by omega
      have HE := hid (show r = q by rw [← HR.out, ← HI.out, List.take_of_length_le (by rw [HN.out]; omega)])
      go_wp2
      go_ret
      exact ⟨by rw [HE.out]; rfl, rfl⟩

/-- Hints up to the first one below 0, and those from it on. -/
def CutOut (a : Option Addr) (n c : Nat) (hs : List Int) (e : Ending) : Prop :=
  ((∀ j, j < n → 0 ≤ hs.getD j 0) ∧ e = .returned (.tuple #[.slice a n c, .slice none 0 0])) ∨
    ∃ i b off, i < n ∧ (∀ j, j < i → 0 ≤ hs.getD j 0) ∧ hs.getD i 0 < 0 ∧ a = some ⟨b, off, none⟩ ∧ e = .returned (.tuple #[.slice (some ⟨b, off, none⟩) i c, .slice (some ⟨b, off + i, none⟩) (n - i) (c - i)])

set_option maxRecDepth 100000 in
set_option maxHeartbeats 4000000 in
theorem aboveNought78 (a : Option Addr) (n c : Nat) (hs : List Int) (w : World) (hn : hs.length = n) (hb : n ≤ 35184372088832) (hcn : n ≤ c) (hcm : c ≤ maxLen) (hx : Hnts w a hs) :
    Calls Try.prog 78 #[.slice a n c] w fun e w' => CutOut a n c hs e ∧ Below w.heap.size w w' := by
  have HX := hid hx
  have HN := hid hn
  have HCM := hid hcm
  clear hx hn hcm
  go_enter Try.func78, Try.ntmps78
  go_wp2
  go_loop [8] (fun i => ∃ k : Nat, i = .int .i64 k ∧ k ≤ n ∧ Hid (∀ j, j < k → 0 ≤ hs.getD j 0)) (fun i => n - (intOf i).toNat)
  case atStart => exact ⟨0, rfl, Nat.zero_le _, hid (fun j hj => absurd hj (Nat.not_lt_zero j))⟩
  case round =>
    obtain ⟨k, rfl, hk, HI⟩ := hrel
    by_cases hlt : k < n
    · have hlt' : (k : Int) < n := by omega
      obtain ⟨b, off, rfl, _, hc, h1, h2⟩ := Row.at HX.out (j := k) (by rw [HN.out]; exact hlt)
      by_cases hneg : hs.getD k 0 < 0
      · have HF : Hid (CutOut (some ⟨b, off, none⟩) n c hs (.returned (.tuple #[.slice (some ⟨b, off, none⟩) k c, .slice (some ⟨b, off + k, none⟩) (n - k) (c - k)]))) := .inr ⟨k, b, off, hlt, HI.out, hneg, rfl, rfl⟩
        generalize hs.getD k 0 = x at hc h1 h2 hneg
        have hkc : (k : Int) ≤ c := by omega
        have hkn : (k : Int) ≤ n := by omega
        have hck : ¬ c = k := by omega
        go_wp2_with fail
        go_quiet (fail)
        go_wp2
        refine bodyPost_ret (results_tmp2 rfl _ _ _) rfl ?_
        exact ⟨HF.out, ⟨rfl, rfl, rfl, Nat.le_refl _, fun _ _ => rfl⟩⟩
      · have HK : Hid (∀ j, j < k + 1 → 0 ≤ hs.getD j 0) := fun j hj => by
          by_cases e : j = k
          · subst e; omega
          · exact HI.out j (by omega)
        generalize hs.getD k 0 = x at hc h1 h2 hneg
        go_wp2
        go_round
        case rel => exact ⟨k + 1, by go_num, by omega, HK⟩
        case measure => simp [intOf]; omega
    · have hge : ¬ (k : Int) < n := by omega
      have HF : Hid (CutOut a n c hs (.returned (.tuple #[.slice a n c, .slice none 0 0]))) := .inl ⟨fun j hj => HI.out j (by omega), rfl⟩
      go_wp2
      refine bodyPost_ret (results_tmp2 rfl _ _ _) rfl ?_
      exact ⟨HF.out, Below.refl _ _⟩
end Go.Proofs.Ytjjanmgeogjngaa

/- How often the clauses that stand have a literal: the call. -/
namespace Ckr
/-- The place of a literal. -/
def place (l : Int) : Nat := 2 * (Cnf.vr l).toNat + (if l < 0 then 1 else 0)
theorem place_eq (l : Int) : (2 * Cnf.vr l + (if l < 0 then 1 else 0) : Int) = (place l : Int) := by
  have := Cnf.vr_nonneg l
  unfold place
  split <;> omega
theorem place_le (l : Int) (h1 : -2147483648 ≤ l) (h2 : l ≤ 2147483647) : place l ≤ 4294967297 := by
  have := Cnf.vr_le l h1 h2
  unfold place
  split <;> omega
end Ckr
namespace Go.Proofs.Ytjjanmgeogjngaa
open Go.RowKit
set_option linter.unusedVariables false

set_option maxRecDepth 100000 in
set_option maxHeartbeats 2000000 in
theorem timesOf90 (cb : Nat) (l : Int) (a : Option Addr) (n cap : Nat) (tm : List Int) (w : World) (h1 : -2147483648 ≤ l) (h2 : l ≤ 2147483647) (hn : tm.length = n) (hN : n ≤ 8589934592) (h3 : w.cell? ⟨cb, 3, none⟩ = some (.slice a n cap)) (hv : Row .i64 (-9223372036854775808) 9223372036854775807 w a tm) :
    Calls Try.prog 90 #[.pointer (some ⟨cb, 0, none⟩), .int .i32 l] w fun e w' => e = .returned (.int .i64 (tm.getD (Ckr.place l) 0)) ∧ Drawn w w' := by
  have C := hid (fun w => show Calls Try.prog 72 #[.int .i32 l] w fun e w' => e = .returned (.int .i64 (Ckr.place l)) ∧ w' = w by have h := place72 l w h1 h2; rwa [Ckr.place_eq] at h)
  have hpl := Ckr.place_le l h1 h2
  have HV := hid hv
  have HN := hid hn
  generalize Ckr.place l = p at C hpl ⊢
  clear hv hn
  by_cases hlt : p < n
  · have hlt' : (p : Int) < n := by omega
    obtain ⟨b, off, rfl, _, hc, _, _⟩ := Row.at HV.out (j := p) (by rw [HN.out]; exact hlt)
    generalize tm.getD p 0 = x at hc ⊢
    have hd : decide ((p : Int) < (n : Int)) = true := by simpa using hlt'
    go_enter Try.func90, Try.ntmps90
    go_wp2_with fail
    go_quiet ((go_at_call 72; exact Calls.quiet_of_same (C.out _)))
    generalize hw2 : w.drewN nq = W2
    have HD : Hid (Drawn w W2) := by show Drawn w W2; rw [← hw2]; exact (Drawn.refl w).drewN _
    have hc2 : W2.cell? ⟨b, off + p, none⟩ = some (.int .i64 x) := (HD.out.cell _).trans hc
    have h32 : W2.cell? ⟨cb, 3, none⟩ = some (.slice (some ⟨b, off, none⟩) n cap) := (HD.out.cell _).trans h3
    clear hw2 hc h3
    go_wp2_with fail
    go_quiet ((go_at_call 72; exact Calls.quiet_of_same (C.out _)))
    go_wp2_with fail
    go_ret
    exact ⟨rfl, HD.out.drewN _⟩
  · have hlt' : ¬ (p : Int) < n := by omega
    have HE := hid (show tm.getD p 0 = 0 by rw [List.getD, List.getElem?_eq_none (by rw [HN.out]; omega)]; rfl)
    rw [HE.out]
    have hd : decide ((p : Int) < (n : Int)) = false := by simpa using hlt'
    go_enter Try.func90, Try.ntmps90
    go_wp2_with fail
    go_quiet ((go_at_call 72; exact Calls.quiet_of_same (C.out _)))
    go_wp2_with fail
    go_ret
    exact ⟨rfl, (Drawn.refl w).drewN _⟩
end Go.Proofs.Ytjjanmgeogjngaa

/- Groups of hints: plain, and rows of hints that are cut. -/
namespace Ckr
/-- Hints up to the first one below 0, and those from it on. -/
def ahead (hs : List Int) : List Int := hs.takeWhile (fun h => decide (0 ≤ h))
def behind (hs : List Int) : List Int := hs.dropWhile (fun h => decide (0 ≤ h))
theorem ahead_behind (hs : List Int) (i : Nat) (hi : i ≤ hs.length) (h1 : ∀ j, j < i → 0 ≤ hs.getD j 0) (h2 : i = hs.length ∨ hs.getD i 0 < 0) : ahead hs = hs.take i ∧ behind hs = hs.drop i := by
  induction hs generalizing i with
  | nil => obtain rfl : i = 0 := by simpa using hi
           exact ⟨rfl, rfl⟩
  | cons h hs ih =>
    cases i with
    | zero =>
      have : h < 0 := by simpa using h2
      have hd : decide (0 ≤ h) = false := by simp; omega
      unfold ahead behind
      rw [List.takeWhile_cons, List.dropWhile_cons, hd]
      exact ⟨rfl, rfl⟩
    | succ i =>
      have h0 : 0 ≤ h := by simpa using h1 0 (by omega)
      obtain ⟨e1, e2⟩ := ih i (by simpa using hi) (fun j hj => by simpa using h1 (j + 1) (by omega)) (by simpa using h2)
      unfold ahead behind at *
      simp [List.takeWhile, List.dropWhile, h0, e1, e2]
theorem behind_len (hs : List Int) : (behind hs).length ≤ hs.length := by
  unfold behind
  exact (List.dropWhile_sublist _).length_le
/-- The groups, one behind the other: the error; by fuel. -/
def coverL (F : Int → Option (List Int)) (T tm : List Int) (p : Int) : Nat → Int → Int → List Int → Int
  | 0, _, _, _ => 0
  | _ + 1, _, sn, [] => if sn < tm.getD (place (-p)) 0 then 61 else 0
  | k + 1, bf, sn, h :: hs =>
    if -h ≤ bf ∨ times (-p) ((F (-h)).getD []) = 0 then 60
    else if groupE F T ((F (-h)).getD []) p (ahead hs) = 0 then coverL F T tm p k (-h) (sn + times (-p) ((F (-h)).getD [])) (behind hs)
    else groupE F T ((F (-h)).getD []) p (ahead hs)
end Ckr
namespace Go.Proofs.Ytjjanmgeogjngaa
open Go.RowKit Go.Maps
set_option linter.unusedVariables false

theorem Asg.below {n0 cb : Nat} {c0 c1 c2 c3 c4 : Value} {W W' : World} {T : List Int} {r : Option Nat} (h : Asg n0 cb c0 c1 c2 c3 c4 W T r) (hb : Below W.heap.size W W') : Asg n0 cb c0 c1 c2 c3 c4 W' T r := by
  obtain ⟨vals, vv, vr, hr, hcb, hsz, hc, hov, hot, hV⟩ := h
  exact ⟨vals, vv, vr, hr, hcb, Nat.le_trans hsz hb.size, (hb.block cb (Array.getElem?_eq_some_iff.1 hc).1).trans hc, own_below hov hb, own_below hot hb, hV⟩
theorem Kp.of_below {n0 cb : Nat} {r : Option Nat} {W W' : World} (hb : Below W.heap.size W W') : Kp n0 cb r W W' := ⟨hb.os, hb.tape, hb.output, hb.size, fun g hg _ _ _ => hb.block g hg, fun _ g hg _ _ _ => hb.block g hg, fun hc => by rw [VB.same (hb.block cb hc)]; exact Nw.refl _ _⟩
abbrev SafeH := SafeR .i64 (-9223372036854775808) 9223372036854775807
theorem SafeR.take {q : IntKind} {lo hi : Int} {n0 cb : Nat} {r : Option Nat} {W : World} {a : Option Addr} {xs : List Int} (h : SafeR q lo hi n0 cb r W a xs) (i : Nat) : SafeR q lo hi n0 cb r W a (xs.take i) := by
  obtain ⟨⟨h1, h2⟩, h3⟩ := h
  refine ⟨⟨fun x hx => h1 x (List.mem_of_mem_take hx), ?_⟩, fun g off e hx => h3 g off e (fun e => hx (by rw [e]; simp))⟩
  rcases h2 with h2 | ⟨b, off, e, hl, hc⟩
  · left; rw [h2]; simp
  · refine .inr ⟨b, off, e, hl, fun j hj => ?_⟩
    have hj' : j < i ∧ j < xs.length := by simp at hj; omega
    rw [hc j hj'.2]
    simp [List.getD, hj'.1]
theorem SafeR.drop {q : IntKind} {lo hi : Int} {n0 cb b off : Nat} {r : Option Nat} {W : World} {xs : List Int} (h : SafeR q lo hi n0 cb r W (some ⟨b, off, none⟩) xs) (i : Nat) : SafeR q lo hi n0 cb r W (some ⟨b, off + i, none⟩) (xs.drop i) := by
  obtain ⟨⟨h1, h2⟩, h3⟩ := h
  refine ⟨⟨fun x hx => h1 x (List.mem_of_mem_drop hx), ?_⟩, fun g off' e hx => ?_⟩
  · rcases h2 with h2 | ⟨b', off', e, hl, hc⟩
    · left; rw [h2]; simp
    · cases e
      refine .inr ⟨b, off + i, rfl, hl, fun j hj => ?_⟩
      have hj' : i + j < xs.length := by simp at hj; omega
      rw [show off + i + j = off + (i + j) by omega, hc (i + j) hj']
      simp [List.getD]
  · cases e
    exact h3 b off rfl (fun e => hx (by rw [e]; simp))
theorem SafeR.nil {q : IntKind} {lo hi : Int} {n0 cb : Nat} {r : Option Nat} {W : World} (a : Option Addr) : SafeR q lo hi n0 cb r W a [] := ⟨Row.nil _ _ _ _ _, fun _ _ _ h => absurd rfl h⟩
end Go.Proofs.Ytjjanmgeogjngaa

/- Groups of hints: the call. -/
namespace Go.Proofs.Ytjjanmgeogjngaa
open Go.RowKit Go.Maps
set_option linter.unusedVariables false

theorem aheadL (n0 cb : Nat) (r : Option Nat) (a : Option Addr) (n c : Nat) (hs : List Int) (W : World) (hn : hs.length = n) (hb : n ≤ 35184372088832) (hcn : n ≤ c) (hcm : c ≤ maxLen) (hx : SafeH n0 cb r W a hs) :
    Calls Try.prog 78 #[.slice a n c] W fun e w' => ∃ a1 c1 a2 c2, e = .returned (.tuple #[.slice a1 (Ckr.ahead hs).length c1, .slice a2 (Ckr.behind hs).length c2]) ∧ SafeH n0 cb r W a1 (Ckr.ahead hs) ∧ SafeH n0 cb r W a2 (Ckr.behind hs) ∧ (Ckr.behind hs).length ≤ c2 ∧ c2 ≤ maxLen ∧ Below W.heap.size W w' := by
  refine (aboveNought78 a n c hs W hn hb hcn hcm hx.1).mono ?_
  rintro e w' ⟨h, hB⟩
  rcases h with ⟨h1, rfl⟩ | ⟨i, b, off, hi, h1, h2, rfl, rfl⟩
  · obtain ⟨e1, e2⟩ := Ckr.ahead_behind hs n (by omega) h1 (.inl hn.symm)
    rw [List.take_of_length_le (by omega)] at e1
    rw [List.drop_of_length_le (by omega)] at e2
    rw [e1, e2, hn]
    exact ⟨a, c, none, 0, rfl, hx, SafeR.nil _, Nat.le_refl _, Nat.zero_le _, hB⟩
  · obtain ⟨e1, e2⟩ := Ckr.ahead_behind hs i (by omega) h1 (.inr h2)
    rw [e1, e2, List.length_take, List.length_drop, hn, Nat.min_eq_left (by omega)]
    exact ⟨_, _, _, _, rfl, hx.take i, hx.drop i, by omega, by omega, hB⟩

def CovOut (n0 cb : Nat) (c0 c1 c2 c3 c4 : Value) (W : World) (T : List Int) (r : Option Nat) (q : Int) (e : Ending) (W' : World) : Prop := GroupOut n0 cb c0 c1 c2 c3 c4 W T r q e W'

/-- The clause under an id as it is looked up: nil if there is none. -/
theorem Stand.at {n0 cb bm k : Nat} {f : Int → Option Value} {F : Int → Option (List Int)} {r : Option Nat} {W : World} (h : Stand n0 cb bm k f F r W) (id : Int) :
    ∃ a c, (f id).getD (.slice none 0 0) = .slice a ((F id).getD []).length c ∧ SafeR .i32 (-2147483648) 2147483647 n0 cb r W a ((F id).getD []) ∧ ((F id).getD []).length ≤ 16777216 ∧ ∀ x ∈ (F id).getD [], x ≠ 0 ∧ -1048576 ≤ x ∧ x ≤ 1048576 := by
  cases hf : f id with
  | none =>
    rw [h.none_ id hf]
    exact ⟨none, 0, rfl, SafeR.nil _, Nat.zero_le _, fun x hx => by cases hx⟩
  | some v =>
    obtain ⟨a, c, xs, rfl, hF, h1, h2, h3⟩ := h.some_ id v hf
    rw [hF]
    exact ⟨a, c, rfl, h1, h2, h3⟩

end Go.Proofs.Ytjjanmgeogjngaa

/- Groups of hints: the call. -/
namespace Go.Proofs.Ytjjanmgeogjngaa
open Go.RowKit Go.Maps
set_option linter.unusedVariables false

set_option maxRecDepth 100000 in
set_option maxHeartbeats 8000000 in
theorem covered79 (n0 cb bm km bx : Nat) (f : Int → Option Value) (F : Int → Option (List Int)) (c1 c2 c4 : Value) (p : Int) (tm : List Int) (at3 : Option Addr) (ct3 : Nat) (a : Option Addr) (n c : Nat) (hs : List Int) (W : World) (T : List Int) (r : Option Nat) (hA : Asg n0 cb (.map (some bm)) c1 c2 (.slice at3 tm.length ct3) c4 W T r) (hS : Stand n0 cb bm km f F r W)
    (hp : -1048576 ≤ p ∧ p ≤ 1048576) (htm : SafeH n0 cb r W at3 tm) (htl : tm.length ≤ 8589934592) (htb : ∀ x ∈ tm, 0 ≤ x ∧ x ≤ 4611686018427387904)
    (hn : hs.length = n) (hb : n ≤ 1048576) (hcn : n ≤ c) (hcm : c ≤ maxLen) (hx : SafeH n0 cb r W a hs) (hhb : ∀ h ∈ hs, -4611686018427387903 ≤ h ∧ h ≤ 4611686018427387903) (hbx : Still n0 cb r W bx) (hcx : W.cell? ⟨bx, 0, none⟩ = some (.pointer (some ⟨cb, 0, none⟩))) (hTn : T.length ≤ 1073741824) :
    Calls Try.prog 79 #[.pointer (some ⟨cb, 0, none⟩), .int .i32 p, .slice a n c, .func (.func 76) #[] #[.pointer (some ⟨bx, 0, none⟩)]] W fun e W' => CovOut n0 cb (.map (some bm)) c1 c2 (.slice at3 tm.length ct3) c4 W T r (Ckr.coverL F T tm p (n + 1) 0 0 hs) e W' := by
  have HS := hid hS
  have HTM := hid htm
  have HTL := hid (And.intro htl htb)
  have HBX := hid (And.intro hbx hcx)
  have HP := hid hp
  have HT := hid hTn
  have HA := hid hA
  have HX0 : Hid (SafeH n0 cb r W a hs ∧ hs.length = n ∧ n ≤ c ∧ c ≤ maxLen ∧ ∀ h ∈ hs, -4611686018427387903 ≤ h ∧ h ≤ 4611686018427387903) := ⟨hx, hn, hcn, hcm, hhb⟩
  obtain ⟨d, hd⟩ : ∃ d, Ckr.coverL F T tm p (n + 1) 0 0 hs = d := ⟨_, rfl⟩
  have HD0 := hid hd
  rw [hd]
  have pw : IntKind.i32.wrap (-p) = -p := by rw [IntKind.wrap_i32]; omega
  clear hS htm htl htb hbx hcx hp hTn hA hx hn hcn hcm hhb hd
  go_enter Try.func79, Try.ntmps79
  go_wp2
  go_loopw [2, 9, 10] (fun v2 v9 v10 wr => ∃ (a1 : Option Addr) (n1 k1 : Nat) (hs1 : List Int) (fu : Nat) (bf : Int) (sn : Nat) (r1 : Option Nat), v2 = .slice a1 n1 k1 ∧ v9 = .int .i64 bf ∧ v10 = .int .i64 sn ∧ n1 ≤ n ∧ Hid (SafeH n0 cb r1 wr a1 hs1 ∧ hs1.length = n1 ∧ n1 ≤ k1 ∧ k1 ≤ maxLen ∧ ∀ h ∈ hs1, -4611686018427387903 ≤ h ∧ h ≤ 4611686018427387903) ∧ Hid (n1 < fu ∧ Ckr.coverL F T tm p fu bf sn hs1 = d) ∧ Hid (Asg n0 cb (.map (some bm)) c1 c2 (.slice at3 tm.length ct3) c4 wr T r1) ∧ Hid (Kp n0 cb r W wr ∧ Nw W r r1) ∧ sn ≤ (n - n1) * 16777216 ∧ -4611686018427387904 ≤ bf ∧ bf ≤ 4611686018427387904) (fun v2 _ _ _ => (match v2 with | .slice _ n1 _ => n1 | _ => 0))
  case atStart => exact ⟨a, n, c, hs, n + 1, 0, 0, r, rfl, rfl, rfl, Nat.le_refl _, HX0, hid ⟨by omega, HD0.out⟩, HA, hid ⟨Kp.refl _ _ _ _, Nw.refl _ _⟩, by omega, by omega, by omega⟩
  case round =>
    clear HA HD0 HX0
    obtain ⟨a1, n1, k1, hs1, fu, bf, sn, r1, rfl, rfl, rfl, hn1, HX, HD, HA, HK, hsn, hbf1, hbf2⟩ := hrel
    have HSt := hid (HS.out.kp HK.out.1 HK.out.2)
    obtain ⟨fu, rfl⟩ : ∃ g, fu = g + 1 := ⟨fu - 1, by have := HD.out.1; omega⟩
    cases n1 with
    | zero =>
      have HE := hid (show (if (sn : Int) < tm.getD (Ckr.place (-p)) 0 then 61 else 0) = d by
        have h := HD.out.2
        rw [List.eq_nil_of_length_eq_zero HX.out.2.1, Ckr.coverL] at h
        exact h)
      have C90 := hid (timesOf90 cb (-p) at3 tm.length ct3 tm wr (by have := HP.out; omega) (by have := HP.out; omega) rfl HTL.out.1 (by
        obtain ⟨vals, vv, vr, _, _, _, hc, _⟩ := HA.out
        exact row_cell hc 3) (HTM.out.kp HK.out.1 HK.out.2).1)
      generalize tm.getD (Ckr.place (-p)) 0 = tt at C90 HE
      by_cases ht : (sn : Int) < tt
      · rw [if_pos ht] at HE
        go_wp2_with (go_at_call 90; refine C90.out.mono ?_; clear C90; rintro e w2 ⟨rfl, hd2⟩; have HD2 := hid hd2; clear hd2)
        go_ret
        exact ⟨by rw [← HE.out]; rfl, r1, HA.out.below HD2.out.below', HK.out.1.trans (Kp.of_below HD2.out.below') HK.out.2, HK.out.2⟩
      · rw [if_neg ht] at HE
        go_wp2_with (go_at_call 90; refine C90.out.mono ?_; clear C90; rintro e w2 ⟨rfl, hd2⟩; have HD2 := hid hd2; clear hd2)
        go_ret
        exact ⟨by rw [← HE.out]; rfl, r1, HA.out.below HD2.out.below', HK.out.1.trans (Kp.of_below HD2.out.below') HK.out.2, HK.out.2⟩
    | succ n1 =>
      obtain ⟨hX1, hX2, hX3, hX4, hX5⟩ := HX.out
      cases hs1 with
      | nil => simp at hX2
      | cons x hs2 =>
      have hl2 : hs2.length = n1 := by simpa using hX2
      obtain ⟨b, off, rfl, _, hc, _, _⟩ := Row.at hX1.1 (j := 0) (by simp)
      rw [Nat.add_zero, show (x :: hs2).getD 0 0 = x from rfl] at hc
      obtain ⟨hx1, hx2⟩ := hX5 x (by simp)
      have xw : IntKind.i64.wrap (-x) = -x := by rw [IntKind.wrap_i64]; omega
      have xw' : wrap64 (-x) = -x := by unfold wrap64; omega
      have hD := HD.out.2
      rw [Ckr.coverL] at hD
      have HB2 := hid (And.intro (Ckr.behind_len hs2) (fun h (hh : h ∈ Ckr.behind hs2) => hX5 h (List.mem_cons_of_mem _ ((List.dropWhile_sublist _).subset hh))))
      have HTail : Hid (SafeH n0 cb r1 wr (some ⟨b, off + 1, none⟩) hs2) := by have h := hX1.drop 1; exact h
      have HN1 := hid (show (Ckr.ahead hs2).length ≤ n1 by rw [← hl2]; exact (List.takeWhile_sublist _).length_le)
      have key : ∀ (at1 : Option Addr) (ct1 : Nat), n1 ≤ ct1 → ct1 ≤ maxLen → SafeH n0 cb r1 wr at1 hs2 → Calls Try.prog 78 #[.slice at1 n1 ct1] wr fun e W2 => ∃ a1 c1' a2 c2', e = .returned (.tuple #[.slice a1 (Ckr.ahead hs2).length c1', .slice a2 (Ckr.behind hs2).length c2']) ∧ SafeH n0 cb r1 W2 a1 (Ckr.ahead hs2) ∧ SafeH n0 cb r1 W2 a2 (Ckr.behind hs2) ∧ (Ckr.behind hs2).length ≤ c2' ∧ c2' ≤ maxLen ∧ Below wr.heap.size wr W2 := by
        intro at1 ct1 q1 q2 q3
        refine (aheadL n0 cb r1 at1 n1 ct1 hs2 wr hl2 (by omega) q1 q2 q3).mono ?_
        rintro e W2 ⟨u1, u2, u3, u4, he, q4, q5, q6, q7, q8⟩
        exact ⟨u1, u2, u3, u4, he, q4.kp (Kp.of_below q8) (Nw.refl _ _), q5.kp (Kp.of_below q8) (Nw.refl _ _), q6, q7, q8⟩
      have KEY := hid key
      have HSB := hid (fun W2 (hB : Below wr.heap.size wr W2) => HSt.out.kp (r' := r1) (Kp.of_below hB) (Nw.refl _ _))
      have HAB := hid (fun W2 (hB : Below wr.heap.size wr W2) => HA.out.below hB)
      have HKB := hid (fun W2 (hB : Below wr.heap.size wr W2) => And.intro (HK.out.1.trans (Kp.of_below hB) HK.out.2) HK.out.2)
      have HBXB := hid (fun W2 (hB : Below wr.heap.size wr W2) => show Still n0 cb r1 W2 bx ∧ W2.cell? ⟨bx, 0, none⟩ = some (.pointer (some ⟨cb, 0, none⟩)) from
        ⟨(HBX.out.1.kp HK.out.1 HK.out.2).kp (Kp.of_below hB) (Nw.refl _ _), (HBX.out.1.cell (a := ⟨bx, 0, none⟩) ((HK.out.1.trans (Kp.of_below hB) HK.out.2))).trans HBX.out.2⟩)
      have HFU := hid HD.out.1
      have HL2 := hid hl2
      have HY := hid (show I64 (-x) from ⟨by omega, by omega⟩)
      obtain ⟨tt, htt⟩ : ∃ tt, Ckr.times (-p) ((F (-x)).getD []) = tt := ⟨_, rfl⟩
      obtain ⟨E, hE⟩ : ∃ E, Ckr.groupE F T ((F (-x)).getD []) p (Ckr.ahead hs2) = E := ⟨_, rfl⟩
      have htl := Ckr.times_le (-p) ((F (-x)).getD [])
      have htl2 : ((F (-x)).getD []).length ≤ 16777216 := by obtain ⟨_, _, _, _, h, _⟩ := HSt.out.at (-x); exact h
      rw [htt, hE] at hD
      rw [htt] at htl
      have HTT := hid htt
      have HE := hid hE
      have HDD := hid hD
      generalize hy : -x = y at *
      have hy1 : -4611686018427387903 ≤ y := by omega
      have hy2 : y ≤ 4611686018427387903 := by omega
      have htt2 : tt ≤ 16777216 := by omega
      clear htt hE hD htl htl2 hX1 hX2 hX5 hx1 hx2 key HX HD
      have split : Hid (k1 = 1 ∧ n1 = 0) ∨ ¬ k1 = 1 := by
        by_cases h : k1 = 1
        · exact .inl ⟨h, by omega⟩
        · exact .inr h
      rcases split with h1 | hk1
      · obtain ⟨rfl, rfl⟩ := h1.out
        have C78 := hid (KEY.out (some ⟨b, off, none⟩) 0 (Nat.le_refl _) (Nat.zero_le _) (by rw [List.eq_nil_of_length_eq_zero hl2]; exact SafeR.nil _))
        clear KEY h1
        by_cases t1 : y ≤ bf
        · rw [if_pos (.inl t1)] at HDD
          go_wp2_with (first
          | (go_at_call 78; refine C78.out.mono ?_; clear C78; rintro e W2 ⟨a3, k3, a4, k4, rfl, q4, q5, q6, q7, hB⟩
             obtain ⟨acl, ccl, hcl, hSf, hlen, hlit⟩ := (HSB.out W2 hB).at y
             have hlook := (HSB.out W2 hB).map.look1 (id := y) HY.out
             rw [hcl] at hlook
             have h0 : W2.cell? ⟨cb, 0, none⟩ = some (.map (some bm)) := by
               obtain ⟨vals, vv, vr, _, _, _, hc, _⟩ := HAB.out W2 hB
               exact row_cell hc 0
             have C88 := hid (timesIn88 acl _ ccl _ (-p) W2 rfl (by omega) hSf.1)
             have C89 := hid (group89 n0 cb bm km bx f F c1 c2 (.slice at3 tm.length ct3) c4 acl _ ccl _ p a3 _ k3 (Ckr.ahead hs2) W2 T r1 (HAB.out W2 hB) (HSB.out W2 hB) rfl hlen hSf hlit HP.out rfl (by have := HN1.out; omega) q4 (HBXB.out W2 hB).1 (HBXB.out W2 hB).2 HT.out)
             have HK2 := hid (HKB.out W2 hB)
             have HA2 := hid (HAB.out W2 hB)
             have HQ5 := hid (And.intro q5 (And.intro q6 q7))
             rw [HTT.out] at C88
             rw [HE.out] at C89
             generalize ((F y).getD []).length = ncl at *
             clear hcl hSf hlen hlit q4 q5 q6 q7 hB)
          | (go_at_call 88; refine C88.out.mono ?_; clear C88; rintro e w' ⟨rfl, rfl⟩)
          | (go_at_call 89; refine C89.out.mono ?_; clear C89; rintro e W3 ⟨rfl, r3, hA3, hK3, hN3⟩; have HA3 := hid hA3; have HK3 := hid (And.intro (HK2.out.1.trans hK3 HK2.out.2) (HK2.out.2.trans hN3 HK2.out.1.size)); have HK23 := hid (And.intro hK3 hN3); clear hA3 hK3 hN3))
          go_ret
          exact ⟨by rw [← HDD.out]; rfl, r1, HA2.out, HK2.out.1, HK2.out.2⟩
        · by_cases e2 : tt = 0
          · rw [if_pos (.inr e2)] at HDD
            subst e2
            go_wp2_with (first
            | (go_at_call 78; refine C78.out.mono ?_; clear C78; rintro e W2 ⟨a3, k3, a4, k4, rfl, q4, q5, q6, q7, hB⟩
               obtain ⟨acl, ccl, hcl, hSf, hlen, hlit⟩ := (HSB.out W2 hB).at y
               have hlook := (HSB.out W2 hB).map.look1 (id := y) HY.out
               rw [hcl] at hlook
               have h0 : W2.cell? ⟨cb, 0, none⟩ = some (.map (some bm)) := by
                 obtain ⟨vals, vv, vr, _, _, _, hc, _⟩ := HAB.out W2 hB
                 exact row_cell hc 0
               have C88 := hid (timesIn88 acl _ ccl _ (-p) W2 rfl (by omega) hSf.1)
               have C89 := hid (group89 n0 cb bm km bx f F c1 c2 (.slice at3 tm.length ct3) c4 acl _ ccl _ p a3 _ k3 (Ckr.ahead hs2) W2 T r1 (HAB.out W2 hB) (HSB.out W2 hB) rfl hlen hSf hlit HP.out rfl (by have := HN1.out; omega) q4 (HBXB.out W2 hB).1 (HBXB.out W2 hB).2 HT.out)
               have HK2 := hid (HKB.out W2 hB)
               have HA2 := hid (HAB.out W2 hB)
               have HQ5 := hid (And.intro q5 (And.intro q6 q7))
               rw [HTT.out] at C88
               rw [HE.out] at C89
               generalize ((F y).getD []).length = ncl at *
               clear hcl hSf hlen hlit q4 q5 q6 q7 hB)
            | (go_at_call 88; refine C88.out.mono ?_; clear C88; rintro e w' ⟨rfl, rfl⟩)
            | (go_at_call 89; refine C89.out.mono ?_; clear C89; rintro e W3 ⟨rfl, r3, hA3, hK3, hN3⟩; have HA3 := hid hA3; have HK3 := hid (And.intro (HK2.out.1.trans hK3 HK2.out.2) (HK2.out.2.trans hN3 HK2.out.1.size)); have HK23 := hid (And.intro hK3 hN3); clear hA3 hK3 hN3))
            go_ret
            exact ⟨by rw [← HDD.out]; rfl, r1, HA2.out, HK2.out.1, HK2.out.2⟩
          · have e2' : ((tt : Int) == 0) = false := by simp; omega
            rw [if_neg (by rintro (h | h); exact t1 h; exact e2 h)] at HDD
            by_cases e3 : E = 0
            · rw [if_pos e3] at HDD
              subst e3
              go_wp2_with (first
              | (go_at_call 78; refine C78.out.mono ?_; clear C78; rintro e W2 ⟨a3, k3, a4, k4, rfl, q4, q5, q6, q7, hB⟩
                 obtain ⟨acl, ccl, hcl, hSf, hlen, hlit⟩ := (HSB.out W2 hB).at y
                 have hlook := (HSB.out W2 hB).map.look1 (id := y) HY.out
                 rw [hcl] at hlook
                 have h0 : W2.cell? ⟨cb, 0, none⟩ = some (.map (some bm)) := by
                   obtain ⟨vals, vv, vr, _, _, _, hc, _⟩ := HAB.out W2 hB
                   exact row_cell hc 0
                 have C88 := hid (timesIn88 acl _ ccl _ (-p) W2 rfl (by omega) hSf.1)
                 have C89 := hid (group89 n0 cb bm km bx f F c1 c2 (.slice at3 tm.length ct3) c4 acl _ ccl _ p a3 _ k3 (Ckr.ahead hs2) W2 T r1 (HAB.out W2 hB) (HSB.out W2 hB) rfl hlen hSf hlit HP.out rfl (by have := HN1.out; omega) q4 (HBXB.out W2 hB).1 (HBXB.out W2 hB).2 HT.out)
                 have HK2 := hid (HKB.out W2 hB)
                 have HA2 := hid (HAB.out W2 hB)
                 have HQ5 := hid (And.intro q5 (And.intro q6 q7))
                 rw [HTT.out] at C88
                 rw [HE.out] at C89
                 generalize ((F y).getD []).length = ncl at *
                 clear hcl hSf hlen hlit q4 q5 q6 q7 hB)
              | (go_at_call 88; refine C88.out.mono ?_; clear C88; rintro e w' ⟨rfl, rfl⟩)
              | (go_at_call 89; refine C89.out.mono ?_; clear C89; rintro e W3 ⟨rfl, r3, hA3, hK3, hN3⟩; have HA3 := hid hA3; have HK3 := hid (And.intro (HK2.out.1.trans hK3 HK2.out.2) (HK2.out.2.trans hN3 HK2.out.1.size)); have HK23 := hid (And.intro hK3 hN3); clear hA3 hK3 hN3))
              go_roundw
              case rel => exact ⟨a4, (Ckr.behind hs2).length, k4, Ckr.behind hs2, fu, y, sn + tt, r3, rfl, rfl, by go_num, by have := HB2.out.1; have := HL2.out; omega, hid ⟨HQ5.out.1.kp HK23.out.1 HK23.out.2, rfl, HQ5.out.2.1, HQ5.out.2.2, HB2.out.2⟩, hid ⟨by have := HB2.out.1; have := HL2.out; have := HFU.out; omega, by rw [Int.natCast_add]; exact HDD.out⟩, HA3, HK3, by have := HB2.out.1; have := HL2.out; omega, by omega, by omega⟩
              case measure => first | (have h1 := HB2.out.1; have h2 := HL2.out; show (Ckr.behind hs2).length < 0 + 1; omega) | (have h1 := HB2.out.1; have h2 := HL2.out; apply List.eq_nil_of_length_eq_zero; omega) | (simp; have := HB2.out.1; have := HL2.out; omega)
            · have e3' : (E == 0) = false := by simpa using e3
              have e3'' : (E != 0) = true := by simpa using e3
              rw [if_neg e3] at HDD
              go_wp2_with (first
              | (go_at_call 78; refine C78.out.mono ?_; clear C78; rintro e W2 ⟨a3, k3, a4, k4, rfl, q4, q5, q6, q7, hB⟩
                 obtain ⟨acl, ccl, hcl, hSf, hlen, hlit⟩ := (HSB.out W2 hB).at y
                 have hlook := (HSB.out W2 hB).map.look1 (id := y) HY.out
                 rw [hcl] at hlook
                 have h0 : W2.cell? ⟨cb, 0, none⟩ = some (.map (some bm)) := by
                   obtain ⟨vals, vv, vr, _, _, _, hc, _⟩ := HAB.out W2 hB
                   exact row_cell hc 0
                 have C88 := hid (timesIn88 acl _ ccl _ (-p) W2 rfl (by omega) hSf.1)
                 have C89 := hid (group89 n0 cb bm km bx f F c1 c2 (.slice at3 tm.length ct3) c4 acl _ ccl _ p a3 _ k3 (Ckr.ahead hs2) W2 T r1 (HAB.out W2 hB) (HSB.out W2 hB) rfl hlen hSf hlit HP.out rfl (by have := HN1.out; omega) q4 (HBXB.out W2 hB).1 (HBXB.out W2 hB).2 HT.out)
                 have HK2 := hid (HKB.out W2 hB)
                 have HA2 := hid (HAB.out W2 hB)
                 have HQ5 := hid (And.intro q5 (And.intro q6 q7))
                 rw [HTT.out] at C88
                 rw [HE.out] at C89
                 generalize ((F y).getD []).length = ncl at *
                 clear hcl hSf hlen hlit q4 q5 q6 q7 hB)
              | (go_at_call 88; refine C88.out.mono ?_; clear C88; rintro e w' ⟨rfl, rfl⟩)
              | (go_at_call 89; refine C89.out.mono ?_; clear C89; rintro e W3 ⟨rfl, r3, hA3, hK3, hN3⟩; have HA3 := hid hA3; have HK3 := hid (And.intro (HK2.out.1.trans hK3 HK2.out.2) (HK2.out.2.trans hN3 HK2.out.1.size)); have HK23 := hid (And.intro hK3 hN3); clear hA3 hK3 hN3))
              go_ret
              exact ⟨by rw [← HDD.out]; rfl, r3, HA3.out, HK3.out.1, HK3.out.2⟩
      · have C78 := hid (KEY.out (some ⟨b, off + 1, none⟩) (k1 - 1) (by omega) (by omega) HTail.out)
        have hk1' : (1 : Int) ≤ k1 := by omega
        clear KEY
        by_cases t1 : y ≤ bf
        · rw [if_pos (.inl t1)] at HDD
          go_wp2_with (first
          | (go_at_call 78; refine C78.out.mono ?_; clear C78; rintro e W2 ⟨a3, k3, a4, k4, rfl, q4, q5, q6, q7, hB⟩
             obtain ⟨acl, ccl, hcl, hSf, hlen, hlit⟩ := (HSB.out W2 hB).at y
             have hlook := (HSB.out W2 hB).map.look1 (id := y) HY.out
             rw [hcl] at hlook
             have h0 : W2.cell? ⟨cb, 0, none⟩ = some (.map (some bm)) := by
               obtain ⟨vals, vv, vr, _, _, _, hc, _⟩ := HAB.out W2 hB
               exact row_cell hc 0
             have C88 := hid (timesIn88 acl _ ccl _ (-p) W2 rfl (by omega) hSf.1)
             have C89 := hid (group89 n0 cb bm km bx f F c1 c2 (.slice at3 tm.length ct3) c4 acl _ ccl _ p a3 _ k3 (Ckr.ahead hs2) W2 T r1 (HAB.out W2 hB) (HSB.out W2 hB) rfl hlen hSf hlit HP.out rfl (by have := HN1.out; omega) q4 (HBXB.out W2 hB).1 (HBXB.out W2 hB).2 HT.out)
             have HK2 := hid (HKB.out W2 hB)
             have HA2 := hid (HAB.out W2 hB)
             have HQ5 := hid (And.intro q5 (And.intro q6 q7))
             rw [HTT.out] at C88
             rw [HE.out] at C89
             generalize ((F y).getD []).length = ncl at *
             clear hcl hSf hlen hlit q4 q5 q6 q7 hB)
          | (go_at_call 88; refine C88.out.mono ?_; clear C88; rintro e w' ⟨rfl, rfl⟩)
          | (go_at_call 89; refine C89.out.mono ?_; clear C89; rintro e W3 ⟨rfl, r3, hA3, hK3, hN3⟩; have HA3 := hid hA3; have HK3 := hid (And.intro (HK2.out.1.trans hK3 HK2.out.2) (HK2.out.2.trans hN3 HK2.out.1.size)); have HK23 := hid (And.intro hK3 hN3); clear hA3 hK3 hN3))
          go_ret
          exact ⟨by rw [← HDD.out]; rfl, r1, HA2.out, HK2.out.1, HK2.out.2⟩
        · by_cases e2 : tt = 0
          · rw [if_pos (.inr e2)] at HDD
            subst e2
            go_wp2_with (first
            | (go_at_call 78; refine C78.out.mono ?_; clear C78; rintro e W2 ⟨a3, k3, a4, k4, rfl, q4, q5, q6, q7, hB⟩
               obtain ⟨acl, ccl, hcl, hSf, hlen, hlit⟩ := (HSB.out W2 hB).at y
               have hlook := (HSB.out W2 hB).map.look1 (id := y) HY.out
               rw [hcl] at hlook
               have h0 : W2.cell? ⟨cb, 0, none⟩ = some (.map (some bm)) := by
                 obtain ⟨vals, vv, vr, _, _, _, hc, _⟩ := HAB.out W2 hB
                 exact row_cell hc 0
               have C88 := hid (timesIn88 acl _ ccl _ (-p) W2 rfl (by omega) hSf.1)
               have C89 := hid (group89 n0 cb bm km bx f F c1 c2 (.slice at3 tm.length ct3) c4 acl _ ccl _ p a3 _ k3 (Ckr.ahead hs2) W2 T r1 (HAB.out W2 hB) (HSB.out W2 hB) rfl hlen hSf hlit HP.out rfl (by have := HN1.out; omega) q4 (HBXB.out W2 hB).1 (HBXB.out W2 hB).2 HT.out)
               have HK2 := hid (HKB.out W2 hB)
               have HA2 := hid (HAB.out W2 hB)
               have HQ5 := hid (And.intro q5 (And.intro q6 q7))
               rw [HTT.out] at C88
               rw [HE.out] at C89
               generalize ((F y).getD []).length = ncl at *
               clear hcl hSf hlen hlit q4 q5 q6 q7 hB)
            | (go_at_call 88; refine C88.out.mono ?_; clear C88; rintro e w' ⟨rfl, rfl⟩)
            | (go_at_call 89; refine C89.out.mono ?_; clear C89; rintro e W3 ⟨rfl, r3, hA3, hK3, hN3⟩; have HA3 := hid hA3; have HK3 := hid (And.intro (HK2.out.1.trans hK3 HK2.out.2) (HK2.out.2.trans hN3 HK2.out.1.size)); have HK23 := hid (And.intro hK3 hN3); clear hA3 hK3 hN3))
            go_ret
            exact ⟨by rw [← HDD.out]; rfl, r1, HA2.out, HK2.out.1, HK2.out.2⟩
          · have e2' : ((tt : Int) == 0) = false := by simp; omega
            rw [if_neg (by rintro (h | h); exact t1 h; exact e2 h)] at HDD
            by_cases e3 : E = 0
            · rw [if_pos e3] at HDD
              subst e3
              go_wp2_with (first
              | (go_at_call 78; refine C78.out.mono ?_; clear C78; rintro e W2 ⟨a3, k3, a4, k4, rfl, q4, q5, q6, q7, hB⟩
                 obtain ⟨acl, ccl, hcl, hSf, hlen, hlit⟩ := (HSB.out W2 hB).at y
                 have hlook := (HSB.out W2 hB).map.look1 (id := y) HY.out
                 rw [hcl] at hlook
                 have h0 : W2.cell? ⟨cb, 0, none⟩ = some (.map (some bm)) := by
                   obtain ⟨vals, vv, vr, _, _, _, hc, _⟩ := HAB.out W2 hB
                   exact row_cell hc 0
                 have C88 := hid (timesIn88 acl _ ccl _ (-p) W2 rfl (by omega) hSf.1)
                 have C89 := hid (group89 n0 cb bm km bx f F c1 c2 (.slice at3 tm.length ct3) c4 acl _ ccl _ p a3 _ k3 (Ckr.ahead hs2) W2 T r1 (HAB.out W2 hB) (HSB.out W2 hB) rfl hlen hSf hlit HP.out rfl (by have := HN1.out; omega) q4 (HBXB.out W2 hB).1 (HBXB.out W2 hB).2 HT.out)
                 have HK2 := hid (HKB.out W2 hB)
                 have HA2 := hid (HAB.out W2 hB)
                 have HQ5 := hid (And.intro q5 (And.intro q6 q7))
                 rw [HTT.out] at C88
                 rw [HE.out] at C89
                 generalize ((F y).getD []).length = ncl at *
                 clear hcl hSf hlen hlit q4 q5 q6 q7 hB)
              | (go_at_call 88; refine C88.out.mono ?_; clear C88; rintro e w' ⟨rfl, rfl⟩)
              | (go_at_call 89; refine C89.out.mono ?_; clear C89; rintro e W3 ⟨rfl, r3, hA3, hK3, hN3⟩; have HA3 := hid hA3; have HK3 := hid (And.intro (HK2.out.1.trans hK3 HK2.out.2) (HK2.out.2.trans hN3 HK2.out.1.size)); have HK23 := hid (And.intro hK3 hN3); clear hA3 hK3 hN3))
              go_roundw
              case rel => exact ⟨a4, (Ckr.behind hs2).length, k4, Ckr.behind hs2, fu, y, sn + tt, r3, rfl, rfl, by go_num, by have := HB2.out.1; have := HL2.out; omega, hid ⟨HQ5.out.1.kp HK23.out.1 HK23.out.2, rfl, HQ5.out.2.1, HQ5.out.2.2, HB2.out.2⟩, hid ⟨by have := HB2.out.1; have := HL2.out; have := HFU.out; omega, by rw [Int.natCast_add]; exact HDD.out⟩, HA3, HK3, by have := HB2.out.1; have := HL2.out; omega, by omega, by omega⟩
              case measure => first | (have h1 := HB2.out.1; have h2 := HL2.out; show (Ckr.behind hs2).length < 0 + 1; omega) | (have h1 := HB2.out.1; have h2 := HL2.out; apply List.eq_nil_of_length_eq_zero; omega) | (simp; have := HB2.out.1; have := HL2.out; omega)
            · have e3' : (E == 0) = false := by simpa using e3
              have e3'' : (E != 0) = true := by simpa using e3
              rw [if_neg e3] at HDD
              go_wp2_with (first
              | (go_at_call 78; refine C78.out.mono ?_; clear C78; rintro e W2 ⟨a3, k3, a4, k4, rfl, q4, q5, q6, q7, hB⟩
                 obtain ⟨acl, ccl, hcl, hSf, hlen, hlit⟩ := (HSB.out W2 hB).at y
                 have hlook := (HSB.out W2 hB).map.look1 (id := y) HY.out
                 rw [hcl] at hlook
                 have h0 : W2.cell? ⟨cb, 0, none⟩ = some (.map (some bm)) := by
                   obtain ⟨vals, vv, vr, _, _, _, hc, _⟩ := HAB.out W2 hB
                   exact row_cell hc 0
                 have C88 := hid (timesIn88 acl _ ccl _ (-p) W2 rfl (by omega) hSf.1)
                 have C89 := hid (group89 n0 cb bm km bx f F c1 c2 (.slice at3 tm.length ct3) c4 acl _ ccl _ p a3 _ k3 (Ckr.ahead hs2) W2 T r1 (HAB.out W2 hB) (HSB.out W2 hB) rfl hlen hSf hlit HP.out rfl (by have := HN1.out; omega) q4 (HBXB.out W2 hB).1 (HBXB.out W2 hB).2 HT.out)
                 have HK2 := hid (HKB.out W2 hB)
                 have HA2 := hid (HAB.out W2 hB)
                 have HQ5 := hid (And.intro q5 (And.intro q6 q7))
                 rw [HTT.out] at C88
                 rw [HE.out] at C89
                 generalize ((F y).getD []).length = ncl at *
                 clear hcl hSf hlen hlit q4 q5 q6 q7 hB)
              | (go_at_call 88; refine C88.out.mono ?_; clear C88; rintro e w' ⟨rfl, rfl⟩)
              | (go_at_call 89; refine C89.out.mono ?_; clear C89; rintro e W3 ⟨rfl, r3, hA3, hK3, hN3⟩; have HA3 := hid hA3; have HK3 := hid (And.intro (HK2.out.1.trans hK3 HK2.out.2) (HK2.out.2.trans hN3 HK2.out.1.size)); have HK23 := hid (And.intro hK3 hN3); clear hA3 hK3 hN3))
              go_ret
              exact ⟨by rw [← HDD.out]; rfl, r3, HA3.out, HK3.out.1, HK3.out.2⟩
end Go.Proofs.Ytjjanmgeogjngaa

/- Does a clause follow by hints? Plain. -/
namespace Ckr
/-- Why a clause does not follow by hints; 0: it does. -/
def followsE (F : Int → Option (List Int)) (tm T lits hs : List Int) : Int :=
  if (denyL 0 T lits).1 then 0
  else if (thru F (denyL 0 T lits).2 (ahead hs)).1 = 0 ∧ 0 < lits.length then coverL F (thru F (denyL 0 T lits).2 (ahead hs)).2 tm (lits.getD 0 0) ((behind hs).length + 1) 0 0 (behind hs)
  else toldE (thru F (denyL 0 T lits).2 (ahead hs)).1
theorem thru_len (F : Int → Option (List Int)) (hs : List Int) : ∀ T, (thru F T hs).2.length ≤ T.length + hs.length := by
  induction hs with
  | nil => intro T; simp [thru]
  | cons h hs ih =>
    intro T
    cases e : F h with
    | none => rw [thru_none e]; simp
    | some c =>
      have hm := meetT_len T (meetL T 0 c)
      by_cases e2 : meetHow (meetL T 0 c) = 0
      · rw [thru_go e e2]
        have := ih (meetT T (meetL T 0 c))
        simp; omega
      · rw [thru_stop e e2]; simp; omega
end Ckr

/- Does a clause follow by hints? The call. -/
namespace Go.Proofs.Ytjjanmgeogjngaa
open Go.RowKit Go.Maps
set_option linter.unusedVariables false

set_option maxRecDepth 100000 in
set_option maxHeartbeats 8000000 in
theorem follows61 (n0 cb bm km : Nat) (f : Int → Option Value) (F : Int → Option (List Int)) (c1 c2 c4 : Value) (tm : List Int) (at3 : Option Addr) (ct3 : Nat) (al : Option Addr) (nl cl : Nat) (lits : List Int) (ah : Option Addr) (nh ch : Nat) (hs : List Int) (W : World) (r : Option Nat)
    (hA : Asg n0 cb (.map (some bm)) c1 c2 (.slice at3 tm.length ct3) c4 W [] r) (hS : Stand n0 cb bm km f F r W) (htm : SafeH n0 cb r W at3 tm) (htl : tm.length ≤ 8589934592) (htb : ∀ x ∈ tm, 0 ≤ x ∧ x ≤ 4611686018427387904)
    (hnl : lits.length = nl) (hbl : nl ≤ 16777216) (hxl : SafeR .i32 (-2147483648) 2147483647 n0 cb r W al lits) (hll : ∀ x ∈ lits, x ≠ 0 ∧ -1048576 ≤ x ∧ x ≤ 1048576)
    (hnh : hs.length = nh) (hbh : nh ≤ 1048576) (hcn : nh ≤ ch) (hcm : ch ≤ maxLen) (hxh : SafeH n0 cb r W ah hs) (hhb : ∀ h ∈ hs, -4611686018427387903 ≤ h ∧ h ≤ 4611686018427387903) :
    Calls Try.prog 61 #[.pointer (some ⟨cb, 0, none⟩), .slice al nl cl, .slice ah nh ch] W fun e W' => GroupOut n0 cb (.map (some bm)) c1 c2 (.slice at3 tm.length ct3) c4 W [] r (Ckr.followsE F tm [] lits hs) e W' := by
  have hx := heap_alloc_new W (.cells #[.pointer (some ⟨cb, 0, none⟩)] 30)
  have hB := below_box W (.cells #[.pointer (some ⟨cb, 0, none⟩)] 30)
  generalize hW1 : W.alloc (.cells #[.pointer (some ⟨cb, 0, none⟩)] 30) = W1 at hx hB
  have x6 : ∃ at6 ct6, W1.cell? ⟨cb, 6, none⟩ = some (.slice at6 0 ct6) := by
    obtain ⟨vals, vv, vr, _, _, _, hc, _, hot, _⟩ := hA.below hB
    obtain ⟨a6, c6, rfl⟩ := own_slc hot
    exact ⟨a6, c6, row_cell hc 6⟩
  obtain ⟨at6, ct6, x6⟩ := x6
  have x0 : W1.cell? ⟨W.heap.size, 0, none⟩ = some (.pointer (some ⟨cb, 0, none⟩)) := row_cell hx 0
  have hB2 : Below W.heap.size W W1.drew := ⟨hB.os, hB.tape, hB.output, hB.size, hB.block⟩
  have hx2 : W1.drew.heap[W.heap.size]? = some (.cells #[.pointer (some ⟨cb, 0, none⟩)] 30 (0, 0)) := hx
  obtain ⟨W2, hW2⟩ : ∃ W2, W1.drew = W2 := ⟨_, rfl⟩
  have x62 : W1.drew.cell? ⟨cb, 6, none⟩ = some (.slice at6 0 ct6) := x6
  have x02 : W1.drew.cell? ⟨W.heap.size, 0, none⟩ = some (.pointer (some ⟨cb, 0, none⟩)) := x0
  rw [hW2] at hB2 hx2 x62 x02
  have kB : Kp n0 cb r W W2 := Kp.of_below hB2
  have hA2 := hA.below hB2
  have hS2 := hS.kp (r' := r) kB (Nw.refl _ _)
  have htm2 := htm.kp (r' := r) kB (Nw.refl _ _)
  have hxl2 := hxl.kp (r' := r) kB (Nw.refl _ _)
  have hxh2 := hxh.kp (r' := r) kB (Nw.refl _ _)
  have hcbl : cb < W.heap.size := by
    obtain ⟨vals, vv, vr, _, _, _, hc, _⟩ := hA
    exact (Array.getElem?_eq_some_iff.1 hc).1
  have hrl : ∀ g, r = some g → g < W.heap.size := by
    obtain ⟨vals, vv, vr, hr, _, _, hc, _, hot, _⟩ := hA
    intro g hg
    exact (hot.lt g (by rw [← hr, hg])).2
  have hbx2 : Still n0 cb r W2 W.heap.size := ⟨(Array.getElem?_eq_some_iff.1 hx2).1, by omega, fun e => by have := hrl _ e.symm; omega, fun _ cs fr e => by rw [hx2] at e; injection e with e; injection e with _ e; cases e⟩
  have hcx2 : W2.cell? ⟨W.heap.size, 0, none⟩ = some (.pointer (some ⟨cb, 0, none⟩)) := row_cell hx2 0
  have hdl := Ckr.deny_len 0 lits []
  have htl2 := Ckr.thru_len F (Ckr.ahead hs) (Ckr.denyL 0 [] lits).2
  have hal : (Ckr.ahead hs).length ≤ hs.length := (List.takeWhile_sublist _).length_le
  have hbl2 : (Ckr.behind hs).length ≤ hs.length := Ckr.behind_len hs
  have hbm : ∀ h ∈ Ckr.behind hs, -4611686018427387903 ≤ h ∧ h ≤ 4611686018427387903 := fun h hh => hhb h ((List.dropWhile_sublist _).subset hh)
  obtain ⟨bx, hbx⟩ : ∃ bx, W.heap.size = bx := ⟨_, rfl⟩
  have C75 := hid (deny75 n0 cb (.map (some bm)) c1 c2 (.slice at3 tm.length ct3) c4 al nl cl 0 lits W2 [] r hA2 hnl (by omega) hxl2.safe hll (by omega) (by simp))
  have C78 := hid (fun W3 r3 (hk : Kp n0 cb r W2 W3) (hw : Nw W2 r r3) => aheadL n0 cb r3 ah nh ch hs W3 hnh (by omega) hcn hcm (hxh2.kp hk hw))
  have C76 := hid (fun W4 r3 a1 k1 (hk : Kp n0 cb r W2 W4) (hw : Nw W2 r r3) (hA3 : Asg n0 cb (.map (some bm)) c1 c2 (.slice at3 tm.length ct3) c4 W4 (Ckr.denyL 0 [] lits).2 r3) (hq : SafeH n0 cb r3 W4 a1 (Ckr.ahead hs)) =>
    through76 n0 cb bm km bx f F c1 c2 (.slice at3 tm.length ct3) c4 a1 _ k1 (Ckr.ahead hs) W4 _ r3 hA3 (hS2.kp hk hw) rfl (by omega) hq (hbx ▸ hbx2.kp hk hw) (hbx ▸ (hbx2.cell (a := ⟨W.heap.size, 0, none⟩) hk).trans hcx2) (by simp at hdl; omega))
  have C79 := hid (fun W5 r5 a2 k2 (p : Int) (hp : -1048576 ≤ p ∧ p ≤ 1048576) (hk : Kp n0 cb r W2 W5) (hw : Nw W2 r r5) (hA5 : Asg n0 cb (.map (some bm)) c1 c2 (.slice at3 tm.length ct3) c4 W5 (Ckr.thru F (Ckr.denyL 0 [] lits).2 (Ckr.ahead hs)).2 r5) (hq : SafeH n0 cb r5 W5 a2 (Ckr.behind hs)) (h1 : (Ckr.behind hs).length ≤ k2) (h2 : k2 ≤ maxLen) =>
    covered79 n0 cb bm km bx f F c1 c2 c4 p tm at3 ct3 a2 _ k2 (Ckr.behind hs) W5 _ r5 hA5 (hS2.kp hk hw) hp (htm2.kp hk hw) htl htb rfl (by omega) h1 h2 hq hbm (hbx ▸ hbx2.kp hk hw) (hbx ▸ (hbx2.cell (a := ⟨W.heap.size, 0, none⟩) hk).trans hcx2) (by simp at hdl; omega))
  have C80 := hid (fun h w => show Calls Try.prog 80 #[.int .i64 h] w fun e w' => e = .returned (.int .i64 (Ckr.toldE h)) ∧ w' = w from told80 h w)
  have CX := hid (fun W5 (hk : Kp n0 cb r W2 W5) => show W5.cell? ⟨bx, 0, none⟩ = some (.pointer (some ⟨cb, 0, none⟩)) from hbx ▸ (hbx2.cell (a := ⟨W.heap.size, 0, none⟩) hk).trans hcx2)
  have CL := hid (fun W5 r5 (hk : Kp n0 cb r W2 W5) (hw : Nw W2 r r5) (h0 : 0 < nl) => Row.at (hxl2.kp hk hw).1 (j := 0) (by rw [hnl]; exact h0))
  have HP := hid (fun (h0 : 0 < nl) => show -1048576 ≤ lits.getD 0 0 ∧ lits.getD 0 0 ≤ 1048576 from (hll _ (Lra.getD_mem lits 0 (by rw [hnl]; exact h0))).2)
  have HE1 := hid (Ckr.deny_ext 0 lits [])
  have HE2 := hid (Ckr.thru_ext F (Ckr.ahead hs) (Ckr.denyL 0 [] lits).2)
  have HG : Hid (Ckr.followsE F tm [] lits hs = if (Ckr.denyL 0 [] lits).1 then 0
      else if (Ckr.thru F (Ckr.denyL 0 [] lits).2 (Ckr.ahead hs)).1 = 0 ∧ 0 < nl then Ckr.coverL F (Ckr.thru F (Ckr.denyL 0 [] lits).2 (Ckr.ahead hs)).2 tm (lits.getD 0 0) ((Ckr.behind hs).length + 1) 0 0 (Ckr.behind hs)
      else Ckr.toldE (Ckr.thru F (Ckr.denyL 0 [] lits).2 (Ckr.ahead hs)).1) := by rw [← hnl]; rfl
  have HKB := hid kB
  generalize Ckr.followsE F tm [] lits hs = E at HG ⊢
  unfold DenyOut at C75
  generalize Ckr.denyL 0 [] lits = dn at C75 C76 C79 HE1 HE2 HG
  obtain ⟨dB, dT⟩ := dn
  simp only at C75 C76 C79 HE1 HE2 HG
  generalize Ckr.thru F dT (Ckr.ahead hs) = th at C76 C79 HE2 HG
  obtain ⟨q, T2⟩ := th
  simp only [ThruOut] at C76
  simp only at C79 HE2 HG
  generalize lits.getD 0 0 = p0 at CL HP HG
  clear hx hB hA hS htm htl htb hnl hxl hll hnh hcn hcm hxh hhb hA2 hS2 htm2 hxl2 hxh2 hcbl hrl hbx2 hcx2 hdl htl2 hal hbl2 hbm hx2 hB2 kB
  rw [hbx] at x0 x02
  generalize Ckr.ahead hs = A at C78 C76
  generalize Ckr.behind hs = B at C78 C79 HG
  cases dB
  · by_cases hq : q = 0 ∧ 0 < nl
    · obtain ⟨rfl, hnl⟩ := hq
      have hnl' : (0 : Int) < nl := by omega
      have HG' := hid (show E = Ckr.coverL F T2 tm p0 (B.length + 1) 0 0 B by rw [HG.out]; simp [hnl])
      have HPP := hid (HP.out hnl)
      have HCL := hid (fun W5 r5 hk hw => CL.out W5 r5 hk hw hnl)
      clear HG HP CL
      go_enter_defers Try.func61, Try.ntmps61
      go_wp2_with fail
      refine wp_region_noPanic ?_
      go_region
      all_goals (refine NoPanic.normal ?_)
      all_goals
        go_wp2_with (first
          | (go_at_call 75; refine C75.out.mono ?_; rintro e W3 ⟨rfl, r3, hA3, hK3, hN3⟩; have D78 := hid (C78.out W3 r3 hK3 hN3); have HA3 := hid hA3; have HK3 := hid (And.intro hK3 hN3); clear hA3 hK3 hN3)
          | (go_at_call 78; refine D78.out.mono ?_; rintro e W4 ⟨a1, k1, a2, k2, rfl, q1, q2, q3, q4, hB4⟩
             have HK4 := hid (And.intro (HK3.out.1.trans (Kp.of_below hB4) HK3.out.2) HK3.out.2)
             have D76 := hid (C76.out W4 r3 a1 k1 HK4.out.1 HK4.out.2 (HA3.out.below hB4) (q1.kp (Kp.of_below hB4) (Nw.refl _ _)))
             have HQ2 := hid (And.intro (q2.kp (r' := r3) (Kp.of_below hB4) (Nw.refl _ _)) (And.intro q3 q4))
             clear q1 q2 q3 q4 hB4)
          | (go_at_call 76; refine D76.out.mono ?_; rintro e W5 ⟨rfl, r5, hA5, hK5, hN5⟩
             have HK5 := hid (And.intro (HK4.out.1.trans hK5 HK4.out.2) (HK4.out.2.trans hN5 HK4.out.1.size))
             obtain ⟨bl, ol, rfl, _, hcl, _, _⟩ := HCL.out W5 r5 HK5.out.1 HK5.out.2
             have hcx := CX.out W5 HK5.out.1
             have hB6 : Below W5.heap.size W5 W5.drew := ⟨rfl, rfl, rfl, Nat.le_refl _, fun _ _ => rfl⟩
             obtain ⟨W6, hW6⟩ : ∃ W6, W5.drew = W6 := ⟨_, rfl⟩
             have hcl6 : W5.drew.cell? ⟨bl, ol + 0, none⟩ = some (.int .i32 p0) := hcl
             have hcx6 : W5.drew.cell? ⟨bx, 0, none⟩ = some (.pointer (some ⟨cb, 0, none⟩)) := hcx
             rw [Nat.add_zero] at hcl6
             rw [hW6] at hB6 hcl6 hcx6
             have D79 := hid (C79.out W6 r5 a2 k2 p0 HPP.out (HK5.out.1.trans (Kp.of_below hB6) HK5.out.2) HK5.out.2 (hA5.below hB6) ((HQ2.out.1.kp hK5 hN5).kp (Kp.of_below hB6) (Nw.refl _ _)) HQ2.out.2.1 HQ2.out.2.2)
             have HK6 := hid (And.intro (HK5.out.1.trans (Kp.of_below hB6) HK5.out.2) HK5.out.2)
             clear hA5 hK5 hN5 hB6))
        refine wp_region_noPanic ?_
        go_region_with (go_at_call 79; refine D79.out.mono ?_; rintro e W7 ⟨rfl, r7, hA7, hK7, hN7⟩)
        all_goals (refine NoPanic.normal ?_)
        all_goals
          go_wp2
          obtain ⟨S1, e1⟩ := HE1.out
          obtain ⟨S2, e2⟩ := HE2.out
          refine leaves_cons (f := 74) (args := #[.pointer (some ⟨cb, 0, none⟩), .int .i64 0]) (by simp) (by simp [go_sem]) ?_
          refine (takeBackD n0 cb (.map (some bm)) c1 c2 (.slice at3 tm.length ct3) c4 .returning _ [] (S1 ++ S2) r7 (by have h := hA7; rw [e2, e1, List.append_assoc] at h; exact h)).mono ?_
          rintro e u' w'' ⟨rfl, rfl, hA8, hK8⟩
          have HK7 := hid (And.intro (HK6.out.1.trans hK7 HK6.out.2) (HK6.out.2.trans hN7 HK6.out.1.size))
          exact ⟨_, results_tmp rfl _ _ _, by rw [HG'.out]; rfl, r7, hA8, (HKB.out.trans (HK7.out.1.trans hK8 HK7.out.2) (Nw.refl _ _)), Nw.trans (Nw.refl _ _) HK7.out.2 HKB.out.size⟩
    · have HG' := hid (show E = Ckr.toldE q by rw [HG.out, if_neg (by simp), if_neg hq])
      have key : (q == 0) = false ∨ ((q == 0) = true ∧ nl = 0) := by
        by_cases h : q = 0
        · right; exact ⟨by simpa using h, by omega⟩
        · left; simpa using h
      clear HG HP CL hq
      rcases key with hq0 | ⟨hq0, rfl⟩
      all_goals
        go_enter_defers Try.func61, Try.ntmps61
        go_wp2_with fail
        refine wp_region_noPanic ?_
        go_region
        all_goals (refine NoPanic.normal ?_)
        all_goals
          go_wp2_with (first
            | (go_at_call 75; refine C75.out.mono ?_; rintro e W3 ⟨rfl, r3, hA3, hK3, hN3⟩; have D78 := hid (C78.out W3 r3 hK3 hN3); have HA3 := hid hA3; have HK3 := hid (And.intro hK3 hN3); clear hA3 hK3 hN3)
            | (go_at_call 78; refine D78.out.mono ?_; rintro e W4 ⟨a1, k1, a2, k2, rfl, q1, q2, q3, q4, hB4⟩
               have HK4 := hid (And.intro (HK3.out.1.trans (Kp.of_below hB4) HK3.out.2) HK3.out.2)
               have D76 := hid (C76.out W4 r3 a1 k1 HK4.out.1 HK4.out.2 (HA3.out.below hB4) (q1.kp (Kp.of_below hB4) (Nw.refl _ _)))
               clear q1 q2 q3 q4 hB4)
            | (go_at_call 76; refine D76.out.mono ?_; rintro e W5 ⟨rfl, r5, hA5, hK5, hN5⟩
               have HK5 := hid (And.intro (HK4.out.1.trans hK5 HK4.out.2) (HK4.out.2.trans hN5 HK4.out.1.size))
               have HA5 := hid hA5
               clear hA5 hK5 hN5)
            | (go_at_call 80; refine (C80.out _ _).mono ?_; rintro e w' ⟨rfl, rfl⟩))
          obtain ⟨S1, e1⟩ := HE1.out
          obtain ⟨S2, e2⟩ := HE2.out
          refine leaves_cons (f := 74) (args := #[.pointer (some ⟨cb, 0, none⟩), .int .i64 0]) (by simp) (by simp [go_sem]) ?_
          refine (takeBackD n0 cb (.map (some bm)) c1 c2 (.slice at3 tm.length ct3) c4 .returning _ [] (S1 ++ S2) r5 (by have h := HA5.out; rw [e2, e1, List.append_assoc] at h; exact h)).mono ?_
          rintro e u' w'' ⟨rfl, rfl, hA8, hK8⟩
          exact ⟨_, results_tmp rfl _ _ _, by rw [HG'.out]; rfl, r5, hA8, (HKB.out.trans (HK5.out.1.trans hK8 HK5.out.2) (Nw.refl _ _)), Nw.trans (Nw.refl _ _) HK5.out.2 HKB.out.size⟩
  · go_enter_defers Try.func61, Try.ntmps61
    go_wp2_with fail
    refine wp_region_noPanic ?_
    go_region
    all_goals (refine NoPanic.normal ?_)
    all_goals
      go_wp2_with (first
        | (go_at_call 75; refine C75.out.mono ?_; rintro e W3 ⟨rfl, r3, hA3, hK3, hN3⟩; have HA2 := hid hA3; have HK2 := hid (And.intro hK3 hN3); clear hA3 hK3 hN3))
      obtain ⟨S1, e1⟩ := HE1.out
      refine leaves_cons (f := 74) (args := #[.pointer (some ⟨cb, 0, none⟩), .int .i64 0]) (by simp) (by simp [go_sem]) ?_
      refine (takeBackD n0 cb (.map (some bm)) c1 c2 (.slice at3 tm.length ct3) c4 .returning _ [] S1 r3 (by have h := HA2.out; rw [e1] at h; exact h)).mono ?_
      rintro e u' w'' ⟨rfl, rfl, hA3, hK3⟩
      exact ⟨_, results_tmp rfl _ _ _, by rw [HG.out]; rfl, r3, hA3, (HKB.out.trans (HK2.out.1.trans hK3 HK2.out.2) (Nw.refl _ _)), Nw.trans (Nw.refl _ _) HK2.out.2 HKB.out.size⟩
end Go.Proofs.Ytjjanmgeogjngaa

