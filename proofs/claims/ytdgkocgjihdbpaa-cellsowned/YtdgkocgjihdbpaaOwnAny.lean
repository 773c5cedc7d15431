import Derived.Test.YtdgkocgjihdbpaaOwnNone
import Derived.Test.YtdgkocgjihdbpaaOwnStore
import Derived.Test.YtdgkocgjihdbpaaOwnFree
import Derived.Test.YtdgkocgjihdbpaaOwnLoad
import Derived.Test.YtdgkocgjihdbpaaOwnPayload
import Derived.Test.YtdgkocgjihdbpaaOwnCas
import Derived.Test.YtdgkocgjihdbpaaOwnAllocf
import Derived.Test.YtdgkocgjihdbpaaOwnAllocw
import Derived.Test.YtdgkocgjihdbpaaOwnAllocc
namespace Go.Proofs.Ytdgkocgjihdbpaa
open Go.ChangeShapes Go.WideShapes Go.ChangeAt Go.RowKit
set_option linter.unusedVariables false
theorem owned_any (B : Nat) (L : Lay) (bB gH gN gW n wd : Nat) (w : World) (kind slot cell : Int) (wc : Nat) (a b : Int) (wa : Option Addr) (ws : List Int) (p : ByteArray) (hL : ∀ g, L.has g → B ≤ g) (h : OwS B L bB gH gN gW n wd w) (hU : SeesU w B wa ws) (hlen : ws.length * 8 ≤ 140737488355328) :
    Calls Try.prog 15 #[.pointer (some ⟨bB, 0, none⟩), .pointer (some ⟨L.b, 0, none⟩), .agg #[.int .i64 kind, .int .i64 slot, .int .i64 cell, .int .u64 a, .int .u64 b, .slice wa ws.length wc, .string p], .int .i64 (n : Int), .int .i64 (wd : Int)] w fun e w' => e = .returned (.bool true) ∧ OwS B L bB gH gN gW n wd w' ∧ Below B w w' := by
  obtain ⟨Q, S, row, rfl, rfl, hA, hK⟩ := h.ex
  clear h
  by_cases hs : 1 ≤ slot
  · by_cases hs2 : slot ≤ (S.n : Int)
    · obtain ⟨x, hx, rfl⟩ : ∃ x : Nat, x < S.n ∧ slot = (x : Int) + 1 := ⟨(slot - 1).toNat, by omega, by omega⟩
      cases hu : S.use x
      · by_cases q1 : kind = 1
        · subst q1
          by_cases hm : ws.length ≤ S.wd
          · cases Q with
            | nil => exact own_allocf_un B L S bB gH gN gW row w x cell wc a b wa ws p hL hA hK hx hu hU hlen hm
            | cons k Q' => exact own_allocc_un B L Q' S bB gH gN gW row w x cell wc a b wa ws p k hL hA hK hx hu hU hlen hm
          · exact own_allocw_un B L Q S bB gH gN gW row w x cell wc a b wa ws p hL hA hK hx hu hU hlen hm
        by_cases q2 : kind = 2
        · subst q2
          exact own_free_un B L Q S bB gH gN gW row w x cell wc a b wa ws p hL hA hK hx hu
        by_cases q3 : kind = 3
        · subst q3
          exact own_payload_un B L Q S bB gH gN gW row w x cell wc a b wa ws p hL hA hK hx hu
        by_cases q4 : kind = 4
        · subst q4
          exact own_load_un B L Q S bB gH gN gW row w x cell wc a b wa ws p hL hA hK hx hu
        by_cases q5 : kind = 5
        · subst q5
          exact own_store_un B L Q S bB gH gN gW row w x cell wc a b wa ws p hL hA hK hx hu
        by_cases q6 : kind = 6
        · subst q6
          exact own_cas_un B L Q S bB gH gN gW row w x cell wc a b wa ws p hL hA hK hx hu
        exact own_none_un B L Q S bB gH gN gW row w x cell wc a b wa ws p kind hL hA hK hx hu q1 q2 q3 q4 q5 q6
      · by_cases hy : 0 ≤ cell
        · by_cases hy2 : cell < (S.wd : Int)
          · obtain ⟨j, hj, rfl⟩ : ∃ j : Nat, j < S.wd ∧ cell = (j : Int) := ⟨cell.toNat, by omega, by omega⟩
            by_cases q1 : kind = 1
            · subst q1
              by_cases hm : ws.length ≤ S.wd
              · cases Q with
                | nil => exact own_allocf_in B L S bB gH gN gW row w x j wc a b wa ws p hL hA hK hx hu hj hU hlen hm
                | cons k Q' => exact own_allocc_in B L Q' S bB gH gN gW row w x j wc a b wa ws p k hL hA hK hx hu hj hU hlen hm
              · exact own_allocw_in B L Q S bB gH gN gW row w x j wc a b wa ws p hL hA hK hx hu hj hU hlen hm
            by_cases q2 : kind = 2
            · subst q2
              exact own_free_in B L Q S bB gH gN gW row w x j wc a b wa ws p hL hA hK hx hu hj
            by_cases q3 : kind = 3
            · subst q3
              exact own_payload_in B L Q S bB gH gN gW row w x j wc a b wa ws p hL hA hK hx hu hj
            by_cases q4 : kind = 4
            · subst q4
              exact own_load_in B L Q S bB gH gN gW row w x j wc a b wa ws p hL hA hK hx hu hj
            by_cases q5 : kind = 5
            · subst q5
              exact own_store_in B L Q S bB gH gN gW row w x j wc a b wa ws p hL hA hK hx hu hj
            by_cases q6 : kind = 6
            · subst q6
              exact own_cas_in B L Q S bB gH gN gW row w x j wc a b wa ws p hL hA hK hx hu hj
            exact own_none_in B L Q S bB gH gN gW row w x j wc a b wa ws p kind hL hA hK hx hu hj q1 q2 q3 q4 q5 q6
          · by_cases q1 : kind = 1
            · subst q1
              by_cases hm : ws.length ≤ S.wd
              · cases Q with
                | nil => exact own_allocf_hi B L S bB gH gN gW row w x cell wc a b wa ws p hL hA hK hx hu hy hy2 hU hlen hm
                | cons k Q' => exact own_allocc_hi B L Q' S bB gH gN gW row w x cell wc a b wa ws p k hL hA hK hx hu hy hy2 hU hlen hm
              · exact own_allocw_hi B L Q S bB gH gN gW row w x cell wc a b wa ws p hL hA hK hx hu hy hy2 hU hlen hm
            by_cases q2 : kind = 2
            · subst q2
              exact own_free_hi B L Q S bB gH gN gW row w x cell wc a b wa ws p hL hA hK hx hu hy hy2
            by_cases q3 : kind = 3
            · subst q3
              exact own_payload_hi B L Q S bB gH gN gW row w x cell wc a b wa ws p hL hA hK hx hu hy hy2
            by_cases q4 : kind = 4
            · subst q4
              exact own_load_hi B L Q S bB gH gN gW row w x cell wc a b wa ws p hL hA hK hx hu hy hy2
            by_cases q5 : kind = 5
            · subst q5
              exact own_store_hi B L Q S bB gH gN gW row w x cell wc a b wa ws p hL hA hK hx hu hy hy2
            by_cases q6 : kind = 6
            · subst q6
              exact own_cas_hi B L Q S bB gH gN gW row w x cell wc a b wa ws p hL hA hK hx hu hy hy2
            exact own_none_hi B L Q S bB gH gN gW row w x cell wc a b wa ws p kind hL hA hK hx hu hy hy2 q1 q2 q3 q4 q5 q6
        · by_cases q1 : kind = 1
          · subst q1
            by_cases hm : ws.length ≤ S.wd
            · cases Q with
              | nil => exact own_allocf_lo B L S bB gH gN gW row w x cell wc a b wa ws p hL hA hK hx hu hy hU hlen hm
              | cons k Q' => exact own_allocc_lo B L Q' S bB gH gN gW row w x cell wc a b wa ws p k hL hA hK hx hu hy hU hlen hm
            · exact own_allocw_lo B L Q S bB gH gN gW row w x cell wc a b wa ws p hL hA hK hx hu hy hU hlen hm
          by_cases q2 : kind = 2
          · subst q2
            exact own_free_lo B L Q S bB gH gN gW row w x cell wc a b wa ws p hL hA hK hx hu hy
          by_cases q3 : kind = 3
          · subst q3
            exact own_payload_lo B L Q S bB gH gN gW row w x cell wc a b wa ws p hL hA hK hx hu hy
          by_cases q4 : kind = 4
          · subst q4
            exact own_load_lo B L Q S bB gH gN gW row w x cell wc a b wa ws p hL hA hK hx hu hy
          by_cases q5 : kind = 5
          · subst q5
            exact own_store_lo B L Q S bB gH gN gW row w x cell wc a b wa ws p hL hA hK hx hu hy
          by_cases q6 : kind = 6
          · subst q6
            exact own_cas_lo B L Q S bB gH gN gW row w x cell wc a b wa ws p hL hA hK hx hu hy
          exact own_none_lo B L Q S bB gH gN gW row w x cell wc a b wa ws p kind hL hA hK hx hu hy q1 q2 q3 q4 q5 q6
    · by_cases q1 : kind = 1
      · subst q1
        by_cases hm : ws.length ≤ S.wd
        · cases Q with
          | nil => exact own_allocf_bg B L S bB gH gN gW row w slot cell wc a b wa ws p hL hA hK hs hs2 hU hlen hm
          | cons k Q' => exact own_allocc_bg B L Q' S bB gH gN gW row w slot cell wc a b wa ws p k hL hA hK hs hs2 hU hlen hm
        · exact own_allocw_bg B L Q S bB gH gN gW row w slot cell wc a b wa ws p hL hA hK hs hs2 hU hlen hm
      by_cases q2 : kind = 2
      · subst q2
        exact own_free_bg B L Q S bB gH gN gW row w slot cell wc a b wa ws p hL hA hK hs hs2
      by_cases q3 : kind = 3
      · subst q3
        exact own_payload_bg B L Q S bB gH gN gW row w slot cell wc a b wa ws p hL hA hK hs hs2
      by_cases q4 : kind = 4
      · subst q4
        exact own_load_bg B L Q S bB gH gN gW row w slot cell wc a b wa ws p hL hA hK hs hs2
      by_cases q5 : kind = 5
      · subst q5
        exact own_store_bg B L Q S bB gH gN gW row w slot cell wc a b wa ws p hL hA hK hs hs2
      by_cases q6 : kind = 6
      · subst q6
        exact own_cas_bg B L Q S bB gH gN gW row w slot cell wc a b wa ws p hL hA hK hs hs2
      exact own_none_bg B L Q S bB gH gN gW row w slot cell wc a b wa ws p kind hL hA hK hs hs2 q1 q2 q3 q4 q5 q6
  · by_cases q1 : kind = 1
    · subst q1
      by_cases hm : ws.length ≤ S.wd
      · cases Q with
        | nil => exact own_allocf_sm B L S bB gH gN gW row w slot cell wc a b wa ws p hL hA hK hs hU hlen hm
        | cons k Q' => exact own_allocc_sm B L Q' S bB gH gN gW row w slot cell wc a b wa ws p k hL hA hK hs hU hlen hm
      · exact own_allocw_sm B L Q S bB gH gN gW row w slot cell wc a b wa ws p hL hA hK hs hU hlen hm
    by_cases q2 : kind = 2
    · subst q2
      exact own_free_sm B L Q S bB gH gN gW row w slot cell wc a b wa ws p hL hA hK hs
    by_cases q3 : kind = 3
    · subst q3
      exact own_payload_sm B L Q S bB gH gN gW row w slot cell wc a b wa ws p hL hA hK hs
    by_cases q4 : kind = 4
    · subst q4
      exact own_load_sm B L Q S bB gH gN gW row w slot cell wc a b wa ws p hL hA hK hs
    by_cases q5 : kind = 5
    · subst q5
      exact own_store_sm B L Q S bB gH gN gW row w slot cell wc a b wa ws p hL hA hK hs
    by_cases q6 : kind = 6
    · subst q6
      exact own_cas_sm B L Q S bB gH gN gW row w slot cell wc a b wa ws p hL hA hK hs
    exact own_none_sm B L Q S bB gH gN gW row w slot cell wc a b wa ws p kind hL hA hK hs q1 q2 q3 q4 q5 q6
end Go.Proofs.Ytdgkocgjihdbpaa
